package fold

import (
	"slices"

	"daybook/api"
	"daybook/value"
)

// telling is an operation, and where the column stands that it looks at. A count looks at none.
type telling struct {
	op int
	at int
}

// tellings are those of a relation with such columns; false, if one has no operation, or another column than that takes.
func tellings(l []Agg, cols []string) ([]telling, bool) {
	var all []telling
	for _, a := range l {
		at := slices.Index(cols, a.Col)
		switch a.Op {
		case Count:
			if a.Col != "" {
				return nil, false
			}
		case Distinct, Sum, Least, Greatest:
			if at < 0 {
				return nil, false
			}
		default:
			return nil, false
		}
		all = append(all, telling{a.Op, at})
	}
	return all, true
}

// row is a group's: its values at some places, and what is told of it.
func row(group []api.Row, at []int, l []telling) (api.Row, api.Errno) {
	x := make(api.Row, 0, len(at)+len(l))
	for _, c := range at {
		x = append(x, group[0][c])
	}
	for _, t := range l {
		tell := column{group, t.at}.by(t.op)
		v, e := tell()
		if e != api.OK {
			return nil, e
		}
		x = append(x, v)
	}
	return x, api.OK
}

// column is one of a group of rows.
type column struct {
	group []api.Row
	at    int
}

// by is what tells of the column what an operation asks.
func (c column) by(op int) func() (api.Value, api.Errno) {
	switch op {
	case Count:
		return c.count
	case Distinct:
		return c.distinct
	case Sum:
		return c.sum
	case Least:
		return c.least
	}
	return c.greatest
}

func (c column) count() (api.Value, api.Errno) { return number(int64(len(c.group))), api.OK }

func (c column) distinct() (api.Value, api.Errno) {
	return number(int64(len(value.Sorted(c.values())))), api.OK
}

func (c column) sum() (api.Value, api.Errno) { return Total(c.values()) }

func (c column) least() (api.Value, api.Errno) {
	return slices.MinFunc(c.values(), value.Compare), api.OK
}

func (c column) greatest() (api.Value, api.Errno) {
	return slices.MaxFunc(c.values(), value.Compare), api.OK
}

// values are the column's, of each row.
func (c column) values() []api.Value {
	l := make([]api.Value, 0, len(c.group))
	for _, x := range c.group {
		l = append(l, x[c.at])
	}
	return l
}

func number(n int64) api.Value { return api.Value{Kind: api.KInt, N: n} }
