package rows

import (
	"errors"
	"slices"
	"strings"
	"testing"

	"daybook/api"
)

func TestProject(t *testing.T) {
	r := rel("x y z", "1 2 3", "1 2 4", "1 3 3", "2 1 3")
	for _, x := range []struct {
		cols string
		want Rel
		e    api.Errno
	}{
		{"x y z", r, api.OK},
		{"x y", rel("x y", "1 2", "1 3", "2 1"), api.OK},
		{"y x", rel("y x", "1 2", "2 1", "3 1"), api.OK},
		{"z y x", rel("z y x", "3 1 2", "3 2 1", "3 3 1", "4 2 1"), api.OK},
		{"y", rel("y", "1", "2", "3"), api.OK},
		{"z", rel("z", "3", "4"), api.OK},
		{"", rel("", ""), api.OK},
		{"w", Rel{}, api.ErrArg},
		{"x w", Rel{}, api.ErrArg},
		{"w x y z", Rel{}, api.ErrArg},
		{"X", Rel{}, api.ErrArg},
		{"x x", Rel{}, api.ErrArg},
		{"x y z x", Rel{}, api.ErrArg},
	} {
		got, e := Project(r, strings.Fields(x.cols))
		expect(t, "Project(r, "+x.cols+")", got, e, x.want, x.e)
	}
	got, e := Project(rel("x y"), []string{"y"})
	expect(t, "Project of no rows", got, e, rel("y"), api.OK)
	got, e = Project(rel("x y"), nil)
	expect(t, "Project of no rows, no columns", got, e, Rel{}, api.OK)
	got, e = Project(Rel{}, []string{""})
	expect(t, "Project of a name that there is not", got, e, Rel{}, api.ErrArg)
	got, e = Project(r, slices.Repeat(r.Cols, 1<<20))
	expect(t, "Project of very many names", got, e, Rel{}, api.ErrArg)
}

func TestRename(t *testing.T) {
	r := rel("x y", "1 2", "1 3", "2 1")
	for _, x := range []struct {
		cols string
		e    api.Errno
	}{
		{"x y", api.OK},
		{"y x", api.OK},
		{"a b", api.OK},
		{"z x", api.OK},
		{"", api.ErrArg},
		{"x", api.ErrArg},
		{"x y z", api.ErrArg},
		{"x x", api.ErrArg},
		{"a a", api.ErrArg},
	} {
		want := Rel{}
		if x.e == api.OK {
			want = Rel{Cols: strings.Fields(x.cols), Rows: r.Rows}
		}
		got, e := Rename(r, strings.Fields(x.cols))
		expect(t, "Rename(r, "+x.cols+")", got, e, want, x.e)
	}
	got, e := Rename(rel("", ""), nil)
	expect(t, "Rename of no columns", got, e, rel("", ""), api.OK)
	got, e = Rename(Rel{Cols: letters('a', MaxCols)}, letters('A', MaxCols))
	expect(t, "Rename of 32 columns", got, e, Rel{Cols: letters('A', MaxCols)}, api.OK)
	got, e = Rename(Rel{Cols: letters('a', MaxCols)}, letters('a', MaxCols+1))
	expect(t, "Rename to 33 columns", got, e, Rel{}, api.ErrArg)
}

func TestSelect(t *testing.T) {
	r := rel("x y", "1 2", "1 3", "2 1", "3 3")
	for n := range 1 << len(r.Rows) {
		var asked []api.Row
		want := Rel{Cols: r.Cols}
		for i, x := range r.Rows {
			if n>>i&1 == 1 {
				want.Rows = append(want.Rows, x)
			}
		}
		got, e := Select(r, func(x api.Row) bool {
			asked = append(asked, x)
			return n>>(len(asked)-1)&1 == 1
		})
		expect(t, "Select", got, e, want, api.OK)
		if !sameRows(asked, r.Rows) {
			t.Errorf("asked of %v", asked)
		}
	}
	got, e := Select(r, nil)
	expect(t, "Select by none", got, e, Rel{}, api.ErrArg)
	got, e = Select(Rel{}, nil)
	expect(t, "Select of nothing, by none", got, e, Rel{}, api.ErrArg)
	asked := 0
	got, e = Select(rel("", ""), func(x api.Row) bool { asked++; return len(x) == 0 })
	expect(t, "Select of the row without values", got, e, rel("", ""), api.OK)
	if asked != 1 {
		t.Errorf("asked %d times", asked)
	}
}

// A relation that may not be is not asked about.
func TestSelectAsksNothingOfWhatMayNotBe(t *testing.T) {
	for _, r := range mayNot() {
		got, e := Select(r, func(api.Row) bool { t.Errorf("asked of a row of %s", brief(r)); return true })
		expect(t, "Select("+brief(r)+")", got, e, Rel{}, api.ErrArg)
	}
}

// The row that is handed out is one of its own: what becomes of it turns neither the relation nor the answer.
func TestSelectHandsOutRowsOfTheirOwn(t *testing.T) {
	r := rel("x y", "1 2", "1 3", "2 1")
	kept := copied(r)
	var all []api.Row
	got, e := Select(r, func(x api.Row) bool {
		all = append(all, x)
		for _, y := range all {
			clear(y[:cap(y)])
		}
		return true
	})
	expect(t, "Select", got, e, kept, api.OK)
	for _, x := range all {
		copy(x[:cap(x)], row("7 7"))
	}
	if !same(r, kept) || !same(got, kept) {
		t.Errorf("the relation is %s, the answer %s", brief(r), brief(got))
	}
}

// No panic leaves a call.
func TestSelectOfWhatPanics(t *testing.T) {
	r := rel("x", "1", "2", "3")
	for _, what := range []any{nil, "", errors.New("no"), api.OK} {
		asked := 0
		got, e := Select(r, func(api.Row) bool {
			if asked++; asked == 2 {
				panic(what)
			}
			return true
		})
		expect(t, "Select of what panics", got, e, Rel{}, api.ErrArg)
		if asked != 2 {
			t.Errorf("asked %d times", asked)
		}
	}
}
