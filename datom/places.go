package datom

import (
	"iter"

	"daybook/api"
)

// Where the last parts of a datom stand, in each order: behind E, A and V.
const (
	placeT = 3 + iota
	placeAdd
	placeFrom
	placeTo
	placesEnd
)

// The number that stands for Add in a key: what is added stands ahead of what is cut.
const (
	added = 0
	cut   = 1
)

// places are where E, A and V stand in an order.
type places struct{ e, a, v int }

func placesOf(order int) (places, bool) {
	switch order {
	case api.EAVT:
		return places{e: 0, a: 1, v: 2}, true
	case api.AEVT:
		return places{a: 0, e: 1, v: 2}, true
	case api.AVET:
		return places{a: 0, v: 1, e: 2}, true
	case api.VAET:
		return places{v: 0, a: 1, e: 2}, true
	}
	return places{}, false
}

// has says whether an order is one, and has a datom. It does not ask whether that datom may be.
func has(order int, d api.Datom) bool {
	switch order {
	case api.VAET:
		if d.V.Kind != api.KRef {
			return false
		}
		fallthrough
	case api.EAVT, api.AEVT, api.AVET:
		return true
	}
	return false
}

// told are all parts of a datom as an order has them, each with its place.
func (at places) told(d api.Datom) iter.Seq2[int, api.Part] {
	return func(yield func(int, api.Part) bool) {
		for place := range placesEnd {
			if !yield(place, at.part(d, place)) {
				return
			}
		}
	}
}

// part is what a datom has at a place.
func (at places) part(d api.Datom, place int) api.Part {
	switch place {
	case at.e:
		return api.Part{N: d.E}
	case at.a:
		return api.Part{N: d.A}
	case at.v:
		return api.Part{Value: true, V: d.V}
	case placeT:
		return api.Part{N: d.T}
	case placeAdd:
		return api.Part{N: addNumber(d.Add)}
	case placeFrom:
		return api.Part{N: d.From}
	}
	return api.Part{N: d.To}
}

func addNumber(add bool) int64 {
	if add {
		return added
	}
	return cut
}

// datom is the one that has parts, all of them, at their places; it is none, if Add's number is none.
func (at places) datom(l []api.Part) (api.Datom, bool) {
	add := l[placeAdd].N
	return api.Datom{
		E: l[at.e].N, A: l[at.a].N, V: l[at.v].V, T: l[placeT].N,
		Add: add == added, From: l[placeFrom].N, To: l[placeTo].N,
	}, add == added || add == cut
}
