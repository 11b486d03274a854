package txn

import (
	"slices"

	"daybook/api"
	"daybook/span"
)

// taken are the instants at which something is added of each attribute that is not Many: there the values ahead give way.
func (t *trial) taken() map[pair][]api.Span {
	sets := map[pair][]api.Span{}
	for p, l := range t.added() {
		sets[p], _ = span.Make(l)
	}
	return sets
}

// behind are the facts behind the transaction.
func (t *trial) behind() []api.Fact {
	deeds, taken := t.deeds(), t.taken()
	var now []api.Fact
	keep := func(p triple, held []api.Span) {
		if len(held) > 0 {
			now = append(now, api.Fact{E: p.e, A: p.a, V: p.v, Spans: held})
		}
	}
	for _, f := range t.base.Facts {
		p := ofFact(f)
		left, _ := span.Minus(f.Spans, deeds[p].out)
		// What is taken by the value itself is added to it again.
		left, _ = span.Minus(left, near(taken[p.pair], f.Spans))
		held, _ := span.Or(left, deeds[p].in)
		keep(p, held)
	}
	for p, d := range deeds {
		if _, known := t.find(p); !known {
			keep(p, d.in)
		}
	}
	slices.SortFunc(now, func(f, g api.Fact) int { return ofFact(f).compare(ofFact(g)) })
	return now
}

// near are the spans of a set that may meet another one, which has some: of many that are taken a fact has to be held against few.
func near(set, other []api.Span) []api.Span {
	from, _ := slices.BinarySearchFunc(set, other[0].From, func(s api.Span, at int64) int {
		if s.To <= at {
			return -1
		}
		return 1
	})
	to, _ := slices.BinarySearchFunc(set, other[len(other)-1].To, func(s api.Span, at int64) int {
		if s.From < at {
			return -1
		}
		return 1
	})
	return set[from:to]
}
