package index

import (
	"iter"
	"slices"

	"daybook/api"
	"daybook/datom"
	"daybook/facts"
)

// maxFactParts is how many first parts of an order facts have at most: E, A and V.
const maxFactParts = 3

// Datoms are those that begin with some parts, of a view.
func (x *Index) Datoms(order int, l []api.Part, v api.View) ([]api.Datom, api.Errno) {
	if e := check(order, l, v); e != api.OK {
		return nil, e
	}
	return x.seen(order, l, v), api.OK
}

// Facts are what these make.
func (x *Index) Facts(order int, l []api.Part, v api.View) ([]api.Fact, api.Errno) {
	if e := check(order, l, v); e != api.OK {
		return nil, e
	}
	if len(l) > maxFactParts || v.History {
		return nil, api.ErrArg
	}
	held, e := facts.Of(x.seen(order, l, v), v)
	if e != api.OK {
		return nil, e
	}
	slices.SortFunc(held, func(f, g api.Fact) int {
		return datom.Compare(order, api.Datom{E: f.E, A: f.A, V: f.V}, api.Datom{E: g.E, A: g.A, V: g.V})
	})
	return held, api.OK
}

// check says which error first parts of an order, and a view, have.
func check(order int, l []api.Part, v api.View) api.Errno {
	if _, e := datom.Prefix(order, l); e != api.OK {
		return e
	}
	_, e := facts.Datoms(nil, v) // which transactions a view may name is told by layer 6
	return e
}

// seen are the datoms that begin with some parts, of a view; both must be checked.
func (x *Index) seen(order int, l []api.Part, v api.View) []api.Datom {
	var seen []api.Datom
seeing:
	for d := range x.told(order, l) {
		switch {
		case !datom.Begins(order, l, d):
			break seeing
		case d.T > v.Since && (v.AsOf == 0 || d.T <= v.AsOf):
			seen = append(seen, d)
		}
	}
	return seen
}

// told are the datoms of an order, from where those stand that begin with some parts.
func (x *Index) told(order int, l []api.Part) iter.Seq[api.Datom] {
	return func(yield func(api.Datom) bool) {
		from, _ := datom.Prefix(order, l)
		t := x.in(order)
		for i := t.Rank(from); i < t.Len(); i++ {
			p, _ := t.At(i)
			d, e := datom.Read(order, p.Key)
			if e != api.OK || !yield(d) {
				return
			}
		}
	}
}
