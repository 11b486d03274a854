package rows

import (
	"slices"
	"testing"

	"daybook/api"
)

// both are calls of two relations.
type both func(a, b Rel) (Rel, api.Errno)

func TestJoin(t *testing.T) {
	a := rel("x y", "1 2", "1 3", "2 2")
	for _, x := range []struct{ a, b, want Rel }{
		{a, a, a},
		// All columns in common, in another order.
		{a, rel("y x", "2 1", "2 3", "3 1", "9 9"), rel("x y", "1 2", "1 3")},
		// The common one stands last, or first.
		{rel("x y", "1 2", "2 1"), rel("z y", "5 1", "6 1", "6 2"), rel("x y z", "1 2 6", "2 1 5", "2 1 6")},
		{rel("y x", "1 2", "2 1"), rel("y z", "1 6", "1 7", "2 5"), rel("y x z", "1 2 6", "1 2 7", "2 1 5")},
		// Some behind the common one, and some ahead.
		{rel("a b", "1 1", "1 2", "2 1"), rel("p b q", "7 1 0", "7 2 0", "8 1 0", "8 1 5"), rel("a b p q", "1 1 7 0", "1 1 8 0", "1 1 8 5", "1 2 7 0", "2 1 7 0", "2 1 8 0", "2 1 8 5")},
		// None in common: each with each.
		{rel("x", "1", "2"), rel("y", "3", "4"), rel("x y", "1 3", "1 4", "2 3", "2 4")},
		{rel("x", "1", "2"), rel("y"), rel("x y")},
		{rel("x"), rel("y", "1"), rel("x y")},
		{a, Rel{}, rel("x y")},
		{Rel{}, a, rel("x y")},
		{rel("", ""), a, a},
		{rel("", ""), rel("", ""), rel("", "")},
		{Rel{}, rel("", ""), Rel{}},
		// A value is another one, if its kind is.
		{rel("x", "1", "true", "!1"), rel("x y", "@1 2", "!1 2"), rel("x y", "!1 2")},
	} {
		got, e := Join(x.a, x.b)
		expect(t, "Join("+brief(x.a)+", "+brief(x.b)+")", got, e, x.want, api.OK)
	}
}

func TestJoinOfManyColumns(t *testing.T) {
	a, b := Rel{Cols: letters('a', 20)}, Rel{Cols: letters('A', 12)}
	a.Rows, b.Rows = []api.Row{make(api.Row, 20)}, []api.Row{make(api.Row, 12)}
	got, e := Join(a, b)
	expect(t, "Join to 32 columns", got, e, Rel{Cols: slices.Concat(a.Cols, b.Cols), Rows: []api.Row{make(api.Row, 32)}}, api.OK)
	for _, rows := range [][]api.Row{nil, {make(api.Row, 13)}} {
		got, e = Join(a, Rel{Cols: letters('A', 13), Rows: rows})
		expect(t, "Join to 33 columns", got, e, Rel{}, api.ErrRows)
	}
	wide := Rel{Cols: append(letters('A', 12), letters('a', 20)...)}
	got, e = Join(a, wide)
	expect(t, "Join of 20 columns with 32, of which 20 are common", got, e, Rel{Cols: append(letters('a', 20), letters('A', 12)...)}, api.OK)
	got, e = Join(Rel{Cols: letters('A', 32)}, Rel{Cols: letters('a', 32)})
	expect(t, "Join to 64 columns", got, e, Rel{}, api.ErrRows)
}

func TestJoinOfManyRows(t *testing.T) {
	a, b := numbers("x", 0, 400), numbers("y", 0, 250)
	got, e := Join(a, b)
	if e != api.OK || len(got.Rows) != MaxRows || !May(got) {
		t.Errorf("Join to as many rows as may be: %s, %v", brief(got), e)
	}
	got, e = Join(numbers("x", 0, 11), numbers("y", 0, 9091)) // 100001
	expect(t, "Join to a row too many", got, e, Rel{}, api.ErrRows)
	got, e = Join(numbers("x", 0, MaxRows), numbers("y", 0, MaxRows))
	expect(t, "Join to very many rows", got, e, Rel{}, api.ErrRows)
	// In a column there is one value in all rows.
	c := Rel{Cols: []string{"x", "y"}}
	for i := range 400 {
		c.Rows = append(c.Rows, api.Row{number(0), number(int64(i))})
	}
	d, _ := Rename(c, []string{"x", "z"})
	got, e = Join(c, d)
	expect(t, "Join to 160000 rows", got, e, Rel{}, api.ErrRows)
}

// A full relation goes together with another one in little time, whatever the order of what they have in common.
func TestJoinOfFullRelations(t *testing.T) {
	a, b, want := Rel{Cols: []string{"x", "y"}}, Rel{Cols: []string{"z", "y"}}, Rel{Cols: []string{"x", "y", "z"}}
	for i := range int64(MaxRows) {
		j := i * 7919 % MaxRows // each number once, as 7919 has no factor in common with them
		a.Rows = append(a.Rows, api.Row{number(i), number(j)})
		b.Rows = append(b.Rows, api.Row{number(i), number(MaxRows - 1 - i)})
		want.Rows = append(want.Rows, api.Row{number(i), number(j), number(MaxRows - 1 - j)})
	}
	got, e := Join(a, b)
	expect(t, "Join of full relations", got, e, want, api.OK)
	got, e = Without(a, b)
	expect(t, "Without of full relations", got, e, rel("x y"), api.OK)
	b.Rows = slices.Delete(b.Rows, 5, 6)
	got, e = Without(a, b)
	if e != api.OK || len(got.Rows) != 1 || got.Rows[0][1] != number(MaxRows-6) {
		t.Errorf("Without of full relations but for a row: %s, %v", brief(got), e)
	}
	got, e = Without(a, numbers("w", 0, MaxRows))
	expect(t, "Without of full relations that have nothing in common", got, e, rel("x y"), api.OK)
}

func TestOr(t *testing.T) {
	a := rel("x y", "1 2", "1 3", "2 2")
	for _, x := range []struct {
		a, b, want Rel
		e          api.Errno
	}{
		{a, a, a, api.OK},
		{a, rel("x y", "0 9", "1 3", "3 0"), rel("x y", "0 9", "1 2", "1 3", "2 2", "3 0"), api.OK},
		{a, rel("y x", "0 3", "3 1", "9 0"), rel("x y", "0 9", "1 2", "1 3", "2 2", "3 0"), api.OK},
		{rel("x y z"), rel("y z x", "2 3 1"), rel("x y z", "1 2 3"), api.OK},
		{a, rel("x y"), a, api.OK},
		{a, rel("y x"), a, api.OK},
		{rel("y x"), a, rel("y x", "2 1", "2 2", "3 1"), api.OK},
		{Rel{}, Rel{}, Rel{}, api.OK},
		{Rel{}, rel("", ""), rel("", ""), api.OK},
		{rel("", ""), rel("", ""), rel("", ""), api.OK},
		{a, rel("x", "1"), Rel{}, api.ErrArg},
		{rel("x", "1"), a, Rel{}, api.ErrArg},
		{a, rel("x z", "1 2"), Rel{}, api.ErrArg},
		{a, rel("x y z", "1 2 3"), Rel{}, api.ErrArg},
		{a, Rel{}, Rel{}, api.ErrArg},
		{Rel{}, a, Rel{}, api.ErrArg},
		{a, rel("x z"), Rel{}, api.ErrArg},
	} {
		got, e := Or(x.a, x.b)
		expect(t, "Or("+brief(x.a)+", "+brief(x.b)+")", got, e, x.want, x.e)
	}
}

func TestOrOfManyRows(t *testing.T) {
	full := numbers("x", 0, MaxRows)
	got, e := Or(full, full)
	expect(t, "Or of a full one with itself", got, e, full, api.OK)
	got, e = Or(numbers("x", 50000, MaxRows), numbers("x", 0, 70000))
	expect(t, "Or to as many rows as may be", got, e, full, api.OK)
	for _, x := range [][2]Rel{{full, rel("x", "-1")}, {rel("x", "!0"), full}, {full, numbers("x", 1, MaxRows+1)}, {full, numbers("x", MaxRows, 2*MaxRows)}} {
		got, e = Or(x[0], x[1])
		expect(t, "Or to a row too many", got, e, Rel{}, api.ErrRows)
	}
	got, e = Or(full, numbers("y", MaxRows, 2*MaxRows))
	expect(t, "Or to a row too many, of another column", got, e, Rel{}, api.ErrArg)
}

func TestWithout(t *testing.T) {
	a := rel("x y", "1 2", "1 3", "2 2")
	for _, x := range []struct{ a, b, want Rel }{
		{a, a, rel("x y")},
		{a, rel("x y", "1 3", "3 1"), rel("x y", "1 2", "2 2")},
		{a, rel("y x", "3 1"), rel("x y", "1 2", "2 2")},
		{a, rel("x", "1"), rel("x y", "2 2")},
		{a, rel("y", "2", "4"), rel("x y", "1 3")},
		{a, rel("z y w", "2 1 2", "3 2 2"), rel("x y", "1 3")},
		{a, rel("x"), a},
		{a, rel("x y z"), a},
		{rel("x"), a, rel("x")},
		// None in common.
		{a, rel("z"), a},
		{a, rel("z", "1"), rel("x y")},
		{a, rel("z", "7", "8"), rel("x y")},
		{a, Rel{}, a},
		{a, rel("", ""), rel("x y")},
		{rel("", ""), a, Rel{}},
		{rel("", ""), rel("x y"), rel("", "")},
		{rel("", ""), Rel{}, rel("", "")},
		{rel("", ""), rel("", ""), Rel{}},
		// A value is another one, if its kind is.
		{rel("x", "1", "true", "!1"), rel("x", "@1", "!1"), rel("x", "1", "true")},
	} {
		got, e := Without(x.a, x.b)
		expect(t, "Without("+brief(x.a)+", "+brief(x.b)+")", got, e, x.want, api.OK)
	}
	// Columns of both together may be more than a relation's.
	wide := Rel{Cols: letters('a', MaxCols), Rows: []api.Row{make(api.Row, MaxCols)}}
	other := Rel{Cols: letters('A', MaxCols)}
	got, e := Without(wide, other)
	expect(t, "Without of 32 columns and 32 others", got, e, wide, api.OK)
}
