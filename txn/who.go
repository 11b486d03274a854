package txn

import (
	"cmp"
	"slices"

	"daybook/api"
	"daybook/value"
)

// asName is the Unique of an attribute by whose values entities are looked for.
const asName = 2

// holding is a stretch of time at which an entity has a value that no other one has then.
type holding struct {
	a  int64
	v  api.Value
	at api.Span
	e  int64
}

// inTime leaves out who holds: at one beginning just one does.
func inTime(h, g holding) int {
	return cmp.Or(cmp.Compare(h.a, g.a), value.Compare(h.v, g.v), cmp.Compare(h.at.From, g.at.From))
}

// holdings are those of the values by which entities are looked for, in order.
func holdings(l []api.Fact, byID map[int64]api.Attr) []holding {
	var held []holding
	for _, f := range l {
		if byID[f.A].Unique != asName {
			continue
		}
		for _, s := range f.Spans {
			held = append(held, holding{f.A, f.V, s, f.E})
		}
	}
	slices.SortFunc(held, inTime)
	return held
}

// holder is the entity that has a value throughout a span, and whether there is one. Stretches of one entity do not meet, so that it is one of them that has all of the span.
func (t *trial) holder(a int64, v api.Value, at api.Span) (int64, bool) {
	i, found := slices.BinarySearchFunc(t.held, holding{a: a, v: v, at: at}, inTime)
	if !found {
		i--
	}
	if i < 0 || t.held[i].a != a || t.held[i].v != v || t.held[i].at.To < at.To {
		return 0, false
	}
	return t.held[i].e, true
}

// settle finds out who the temporary names stand for.
func (t *trial) settle() {
	t.who = map[string]int64{}
	for _, f := range t.forms {
		e, is := t.candidate(f)
		if !is {
			continue
		}
		if other, known := t.who[f.E.Name]; known && other != e {
			t.twin = true
		}
		t.who[f.E.Name] = e
	}
	t.next = t.base.Next
	for _, name := range Names(t.forms) {
		if _, known := t.who[name]; !known {
			t.who[name] = t.next
			t.next++
		}
	}
}

// candidate is the one that a form has for its E's temporary name, if it has one.
func (t *trial) candidate(f api.Form) (int64, bool) {
	if f.Op != api.FormAdd || f.E.Kind != api.EntTemp || f.V.IsEnt {
		return 0, false
	}
	return t.holder(t.named[f.A].ID, f.V.V, spanOf(f))
}

// meant is the entity that one of a form's means; of one that is looked for, whether there is any.
func (t *trial) meant(x api.Entity, at api.Span) (int64, bool) {
	switch x.Kind {
	case api.EntNumber:
		return x.N, true
	case api.EntTemp:
		return t.who[x.Name], true
	}
	return t.holder(t.named[x.Name].ID, x.V, at)
}

// temps are the temporary names with whom they stand for.
func (t *trial) temps() []api.Temp {
	var l []api.Temp
	for _, name := range Names(t.forms) {
		l = append(l, api.Temp{Name: name, E: t.who[name]})
	}
	return l
}
