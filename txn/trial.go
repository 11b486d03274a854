package txn

import (
	"cmp"
	"iter"
	"slices"

	"daybook/api"
	"daybook/schema"
	"daybook/value"
)

// trial is forms that are tried on a base that may be.
type trial struct {
	base  api.Base
	forms []api.Form
	named map[string]api.Attr
	byID  map[int64]api.Attr

	held []holding
	who  map[string]int64 // by the temporary names
	twin bool             // a temporary name has two candidates
	next int64            // the next entity behind the transaction

	done map[triple]deed
}

func newTrial(b api.Base, l []api.Form) *trial {
	t := &trial{base: b, forms: l, named: map[string]api.Attr{}, byID: map[int64]api.Attr{}}
	attrs, _ := schema.Of(b.Facts)
	for _, a := range attrs {
		t.named[a.Name] = a
		t.byID[a.ID] = a
	}
	t.held = holdings(b.Facts, t.byID)
	t.settle()
	return t
}

// triple is what facts are told apart by.
type triple struct {
	pair
	v api.Value
}

// pair is of whom a fact is, and of which attribute.
type pair struct{ e, a int64 }

func ofFact(f api.Fact) triple { return triple{pair{f.E, f.A}, f.V} }

func (p triple) compare(q triple) int {
	return cmp.Or(cmp.Compare(p.e, q.e), cmp.Compare(p.a, q.a), value.Compare(p.v, q.v))
}

// find is where the base's fact of a triple stands, and whether there is one.
func (t *trial) find(p triple) (int, bool) {
	return slices.BinarySearchFunc(t.base.Facts, p, func(f api.Fact, p triple) int { return ofFact(f).compare(p) })
}

// meaning is a form with who and what it means; what its Op does not name is not asked for.
type meaning struct {
	op     int
	e      int64
	attr   api.Attr
	v, old api.Value
	at     api.Span
}

func (m meaning) of(v api.Value) triple { return triple{pair{m.e, m.attr.ID}, v} }

// meanings are those of the forms. They take for granted that no row up to ErrLookup is broken.
func (t *trial) meanings() iter.Seq[meaning] {
	return func(yield func(meaning) bool) {
		for _, f := range t.forms {
			at := spanOf(f)
			e, _ := t.meant(f.E, at)
			m := meaning{op: f.Op, e: e, attr: t.named[f.A], v: t.said(f.V, at), old: t.said(f.Old, at), at: at}
			if !yield(m) {
				return
			}
		}
	}
}

// said is the value that a term says.
func (t *trial) said(x api.Term, at api.Span) api.Value {
	if !x.IsEnt {
		return x.V
	}
	e, _ := t.meant(x.E, at)
	return api.Value{Kind: api.KRef, N: e}
}
