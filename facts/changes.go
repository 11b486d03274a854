package facts

import (
	"daybook/api"
	"daybook/span"
)

// Changes are datoms that make facts other ones.
func Changes(old, now []api.Fact, t int64) ([]api.Datom, api.Errno) {
	if !mayBe(old) || !mayBe(now) {
		return nil, api.ErrFacts
	}
	if t < 1 || t > api.MaxTx {
		return nil, api.ErrArg
	}
	var l []api.Datom
	say := func(p triple, add bool, has, lacks []api.Span) {
		alone, _ := span.Minus(has, lacks)
		for _, s := range alone {
			l = append(l, api.Datom{E: p.e, A: p.a, V: p.v, T: t, Add: add, From: s.From, To: s.To})
		}
	}
	together(old, now, func(p triple, was, is []api.Span) {
		say(p, true, is, was)
		say(p, false, was, is)
	})
	return l, api.OK
}

// together tells each triple of two lists of facts, rising, with its instants in both.
func together(a, b []api.Fact, tell func(p triple, inA, inB []api.Span)) {
	take := func(l *[]api.Fact, p triple) []api.Span {
		if len(*l) == 0 || ofFact((*l)[0]) != p {
			return nil
		}
		spans := (*l)[0].Spans
		*l = (*l)[1:]
		return spans
	}
	for len(a) > 0 || len(b) > 0 {
		p := least(a, b)
		tell(p, take(&a, p), take(&b, p))
	}
}

// least is the triple that stands first in two lists of facts, of which one at least has some.
func least(a, b []api.Fact) triple {
	if len(a) == 0 {
		return ofFact(b[0])
	}
	if len(b) == 0 || ofFact(a[0]).compare(ofFact(b[0])) < 0 {
		return ofFact(a[0])
	}
	return ofFact(b[0])
}
