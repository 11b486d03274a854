package rows

import (
	"slices"

	"daybook/api"
)

// Project is some columns.
func Project(r Rel, cols []string) (Rel, api.Errno) {
	if !May(r) || !areCols(cols) {
		return Rel{}, api.ErrArg
	}
	at, are := places(cols, r.Cols)
	if !are {
		return Rel{}, api.ErrArg
	}
	return Rel{Cols: slices.Clone(cols), Rows: sorted(gathered(r.Rows, picker(at)))}, api.OK
}

// Rename names columns anew.
func Rename(r Rel, cols []string) (Rel, api.Errno) {
	if !May(r) || len(cols) != len(r.Cols) || !eachOnce(cols) {
		return Rel{}, api.ErrArg
	}
	return Rel{Cols: slices.Clone(cols), Rows: gathered(r.Rows, slices.Clone)}, api.OK
}

// Select is rows of which something says so. A panic of what is asked is no answer, as if there were none to ask.
func Select(r Rel, is func(api.Row) bool) (s Rel, e api.Errno) {
	if !May(r) || is == nil {
		return Rel{}, api.ErrArg
	}
	defer func() {
		if recover() != nil {
			s, e = Rel{}, api.ErrArg
		}
	}()
	return kept(r, func(x api.Row) bool { return is(slices.Clone(x)) }), api.OK
}

// kept is a relation of the rows that are wanted.
func kept(r Rel, wanted func(api.Row) bool) Rel {
	k := Rel{Cols: slices.Clone(r.Cols)}
	for _, x := range r.Rows {
		if wanted(x) {
			k.Rows = append(k.Rows, slices.Clone(x))
		}
	}
	return k
}
