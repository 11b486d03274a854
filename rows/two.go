package rows

import (
	"iter"
	"slices"

	"daybook/api"
	"daybook/value"
)

// Join is rows that agree.
func Join(a, b Rel) (Rel, api.Errno) {
	if !May(a) || !May(b) {
		return Rel{}, api.ErrArg
	}
	shared := meet(a, b)
	cols := slices.Concat(a.Cols, picked(b.Cols, shared.rest))
	if len(cols) > MaxCols {
		return Rel{}, api.ErrRows
	}
	// Of two pairs of rows no row comes twice; and the rows come in order, as those that agree with one do.
	var l []api.Row
joining:
	for _, x := range a.Rows {
		for y := range shared.agreeing(x) {
			if len(l) > MaxRows {
				break joining
			}
			l = append(l, slices.Concat(x, picked(y, shared.rest)))
		}
	}
	if len(l) > MaxRows {
		return Rel{}, api.ErrRows
	}
	return Rel{Cols: cols, Rows: l}, api.OK
}

// Or is rows of both.
func Or(a, b Rel) (Rel, api.Errno) {
	if !May(a) || !May(b) || len(a.Cols) != len(b.Cols) {
		return Rel{}, api.ErrArg
	}
	at, are := places(a.Cols, b.Cols)
	if !are {
		return Rel{}, api.ErrArg
	}
	either := sorted(slices.Concat(gathered(a.Rows, slices.Clone), gathered(b.Rows, picker(at))))
	if len(either) > MaxRows {
		return Rel{}, api.ErrRows
	}
	return Rel{Cols: slices.Clone(a.Cols), Rows: either}, api.OK
}

// Without is rows that do not agree with any.
func Without(a, b Rel) (Rel, api.Errno) {
	if !May(a) || !May(b) {
		return Rel{}, api.ErrArg
	}
	shared := meet(a, b)
	return kept(a, func(x api.Row) bool {
		for range shared.agreeing(x) {
			return false
		}
		return true
	}), api.OK
}

// meeting is what a relation has to do with another one: where the columns that both have stand in each, where the others of the second one stand in it, and its rows, in the order of their values in those that both have.
type meeting struct {
	inA, inB, rest []int
	rows           []api.Row
}

func meet(a, b Rel) *meeting {
	m := &meeting{rows: slices.Clone(b.Rows)}
	for at, c := range b.Cols {
		if i := slices.Index(a.Cols, c); i < 0 {
			m.rest = append(m.rest, at)
		} else {
			m.inA, m.inB = append(m.inA, i), append(m.inB, at)
		}
	}
	slices.SortFunc(m.rows, func(x, y api.Row) int {
		if c := compareAt(x, m.inB, y, m.inB); c != 0 {
			return c
		}
		return Compare(x, y)
	})
	return m
}

// agreeing are the second one's rows that have the values of a row of the first one, in the columns that both have; in order.
func (m *meeting) agreeing(x api.Row) iter.Seq[api.Row] {
	return func(yield func(api.Row) bool) {
		stands := func(y, x api.Row) int { return compareAt(y, m.inB, x, m.inA) }
		first, _ := slices.BinarySearchFunc(m.rows, x, stands)
		for _, y := range m.rows[first:] {
			if stands(y, x) != 0 || !yield(y) {
				return
			}
		}
	}
}

// compareAt says which of two rows stands ahead by their values at some places, as many of the one as of the other.
func compareAt(x api.Row, inX []int, y api.Row, inY []int) int {
	for i := range inX {
		if c := value.Compare(x[inX[i]], y[inY[i]]); c != 0 {
			return c
		}
	}
	return 0
}
