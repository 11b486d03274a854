package txn

import (
	"cmp"
	"slices"

	"daybook/api"
)

// family is that of all gones together. By now each of them has the whole span: whatever is part of one at an instant is so at one of these.
func (t *trial) family() map[int64]struct{} {
	var found []int64
	for m := range t.meanings() {
		if m.op == api.FormGone {
			found = append(found, m.e)
		}
	}
	family := map[int64]struct{}{}
gathering:
	for len(found) > 0 {
		e := found[len(found)-1]
		found = found[:len(found)-1]
		if _, gathered := family[e]; gathered {
			continue gathering
		}
		family[e] = struct{}{}
		for _, f := range t.factsOf(e) {
			if t.byID[f.A].Part {
				found = append(found, f.V.N)
			}
		}
	}
	return family
}

// factsOf are the base's facts of an entity.
func (t *trial) factsOf(e int64) []api.Fact {
	l := t.base.Facts
	byE := func(f api.Fact, e int64) int { return cmp.Compare(f.E, e) }
	from, _ := slices.BinarySearchFunc(l, e, byE)
	to, _ := slices.BinarySearchFunc(l, e+1, byE)
	return l[from:to]
}
