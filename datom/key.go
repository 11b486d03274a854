package datom

import (
	"daybook/api"
	keys "daybook/order"
	"daybook/value"
)

// maxPrefix is how many parts a prefix has at most: the first ones, T with them.
const maxPrefix = placeT + 1

// Key is a datom's in an order.
func Key(order int, d api.Datom) ([]byte, api.Errno) {
	at, ok := placesOf(order)
	if !ok {
		return nil, api.ErrArg
	}
	if !mayBe(d) || !has(order, d) {
		return nil, api.ErrDatom
	}
	var l [placesEnd]api.Part
	for place, p := range at.told(d) {
		l[place] = p
	}
	return keys.Key(l[:])
}

// Read is a key's datom.
func Read(order int, b []byte) (api.Datom, api.Errno) {
	at, ok := placesOf(order)
	if !ok {
		return api.Datom{}, api.ErrArg
	}
	var kinds [placesEnd]bool
	kinds[at.v] = true
	l, e := keys.Read(b, kinds[:])
	if e != api.OK {
		return api.Datom{}, api.ErrDatom
	}
	d, ok := at.datom(l)
	if !ok || !mayBe(d) || !has(order, d) {
		return api.Datom{}, api.ErrDatom
	}
	return d, api.OK
}

// Prefix are the bytes of first parts.
func Prefix(order int, l []api.Part) ([]byte, api.Errno) {
	at, ok := placesOf(order)
	if !ok {
		return nil, api.ErrArg
	}
	if e := at.checkPrefix(l); e != api.OK {
		return nil, e
	}
	return keys.Key(l)
}

// checkPrefix says which error first parts have.
func (at places) checkPrefix(l []api.Part) api.Errno {
	if len(l) > maxPrefix {
		return api.ErrArg
	}
	for place, p := range l {
		if p.Value != (place == at.v) {
			return api.ErrArg
		}
	}
	if at.v < len(l) && value.Check(l[at.v].V) != api.OK {
		return api.ErrKind
	}
	return api.OK
}

// Begins says whether a datom has some first parts.
func Begins(order int, l []api.Part, d api.Datom) bool {
	at, ok := placesOf(order)
	if !ok || at.checkPrefix(l) != api.OK || !has(order, d) {
		return false
	}
	for place, p := range l {
		if compareParts(p, at.part(d, place)) != 0 {
			return false
		}
	}
	return true
}
