package txn

import (
	"cmp"
	"slices"

	"daybook/api"
	"daybook/span"
)

// clashes says whether something is added and cut at an instant, or two values are added where one may be.
func (t *trial) clashes() bool {
	for _, d := range t.deeds() {
		if both, _ := span.And(d.in, d.out); len(both) > 0 {
			return true
		}
	}
	for _, l := range t.added() {
		slices.SortFunc(l, func(a, b api.Span) int { return cmp.Compare(a.From, b.From) })
		for i := 1; i < len(l); i++ {
			// Spans of one value never meet, so that these two are of two.
			if l[i].From < l[i-1].To {
				return true
			}
		}
	}
	return false
}

// added are the spans that are added of each attribute that is not Many, one value's beside the other's.
func (t *trial) added() map[pair][]api.Span {
	l := map[pair][]api.Span{}
	for p, d := range t.deeds() {
		if !t.byID[p.a].Many {
			l[p.pair] = append(l[p.pair], d.in...)
		}
	}
	return l
}
