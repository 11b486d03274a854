package rows

import (
	"math"
	"slices"
	"strings"
	"testing"

	"daybook/api"
)

func TestChaptersExamples(t *testing.T) {
	a, b := rel("x y", "1 2", "1 3", "2 2"), rel("y z", `2 "p"`, `4 "q"`)
	got, e := Join(a, b)
	expect(t, "Join(a, b)", got, e, rel("x y z", `1 2 "p"`, `2 2 "p"`), api.OK)
	got, e = Without(a, b)
	expect(t, "Without(a, b)", got, e, rel("x y", "1 3"), api.OK)
	got, e = Project(a, []string{"x"})
	expect(t, "Project(a, x)", got, e, rel("x", "1", "2"), api.OK)
	got, e = Join(a, rel("x"))
	expect(t, "Join of a with x: no rows", got, e, rel("x y"), api.OK)
	got, e = Join(a, rel("", ""))
	expect(t, "Join of a with no columns, one row", got, e, a, api.OK)
	got, e = Project(a, []string{"w"})
	expect(t, "Project(a, w)", got, e, Rel{}, api.ErrArg)
	got, e = Rename(a, []string{"y"})
	expect(t, "Rename(a, y)", got, e, Rel{}, api.ErrArg)
}

// inOrder are rows as they stand, of any values: such that may not be, too.
func inOrder() []api.Row {
	l := []api.Row{nil}
	for _, v := range []api.Value{
		{Kind: math.MinInt, N: 7, S: "z"}, {}, {S: "a"},
		{Kind: api.KInt, N: math.MinInt64}, number(-1), number(0), {Kind: api.KInt, S: "a"}, number(1), number(math.MaxInt64),
		{Kind: api.KText}, {Kind: api.KText, S: "\x00"}, {Kind: api.KText, S: "a"}, {Kind: api.KText, S: "a\x00"}, {Kind: api.KText, S: "b"}, {Kind: api.KText, S: "\xff"}, {Kind: api.KText, N: 1},
		{Kind: api.KRef, N: 7}, {Kind: api.KTime, N: -5}, {Kind: api.KWord, S: "a"}, {Kind: 8}, {Kind: math.MaxInt},
	} {
		l = append(l, api.Row{v}, api.Row{v, {}}, api.Row{v, number(1)}, api.Row{v, number(1), number(0)}, api.Row{v, number(2)})
	}
	return l
}

func TestCompare(t *testing.T) {
	l := inOrder()
	for i, a := range l {
		for j, b := range l {
			want := 0
			if i < j {
				want = -1
			} else if i > j {
				want = 1
			}
			if got := Compare(a, slices.Clone(b)); got != want {
				t.Errorf("Compare(%v, %v) = %d, want %d", a, b, got, want)
			}
		}
	}
	if Compare(nil, api.Row{}) != 0 || Compare(api.Row{}, nil) != 0 {
		t.Error("a row that is nil and one that is empty are not the same")
	}
}

func TestOf(t *testing.T) {
	for _, x := range []struct {
		cols string
		l    string
		want string
		e    api.Errno
	}{
		{"x", "", "", api.OK},
		{"x", "3,1,2", "1,2,3", api.OK},
		{"x", "1,1,2,1,2", "1,2", api.OK},
		{"x y", "1 2,1 1,0 9,1 2,1 1", "0 9,1 1,1 2", api.OK},
		{"x", `"a",!1,@1,true,#00,1,:a,"",-1`, `-1,1,true,"","a",#00,@1,!1,:a`, api.OK},
		{"y x", "2 1", "2 1", api.OK},
		// No columns.
		{"", "", "", api.OK},
		// Names that stand twice.
		{"x x", "", "", api.ErrArg},
		{"x y x", "1 2 3", "", api.ErrArg},
		// Rows of another length, wherever they stand.
		{"x", "1 2", "", api.ErrArg},
		{"x y", "1", "", api.ErrArg},
		{"x y", "1 2,1 2,1", "", api.ErrArg},
		{"x y", "1,1 2,1 2", "", api.ErrArg},
		{"", "1", "", api.ErrArg},
	} {
		got, e := Of(strings.Fields(x.cols), list(x.l))
		want := Rel{}
		if x.e == api.OK {
			want = Rel{Cols: strings.Fields(x.cols), Rows: list(x.want)}
		}
		expect(t, "Of("+x.cols+"; "+x.l+")", got, e, want, x.e)
	}
	got, e := Of(nil, []api.Row{nil})
	expect(t, "Of(no columns, a row)", got, e, rel("", ""), api.OK)
	got, e = Of([]string{}, []api.Row{nil, {}, nil})
	expect(t, "Of(no columns, three rows)", got, e, rel("", ""), api.OK)
	got, e = Of([]string{"x"}, []api.Row{nil})
	expect(t, "Of(x, a row of no values)", got, e, Rel{}, api.ErrArg)
	got, e = Of([]string{"", "?x", "0", "A b"}, nil)
	expect(t, "Of(names of any bytes)", got, e, Rel{Cols: []string{"", "?x", "0", "A b"}}, api.OK)
	got, e = Of([]string{"", "x", ""}, nil)
	expect(t, "Of(the empty name twice)", got, e, Rel{}, api.ErrArg)
}

// list is rows, with commas between.
func list(s string) []api.Row {
	var l []api.Row
	for _, x := range strings.Split(s, ",") {
		if x != "" {
			l = append(l, row(x))
		}
	}
	return l
}

// Values are any: those that may not be, too.
func TestAnyValues(t *testing.T) {
	var l []api.Row
	for _, x := range inOrder() {
		if len(x) == 1 {
			l = append(l, x)
		}
	}
	turned := slices.Clone(l)
	slices.Reverse(turned)
	got, e := Of([]string{"x"}, append(turned, l...))
	expect(t, "Of(any values)", got, e, Rel{Cols: []string{"x"}, Rows: l}, api.OK)
	back, e := Join(got, got)
	expect(t, "Join of any values", back, e, got, api.OK)
	for _, x := range l {
		if !Has(got, x) {
			t.Errorf("%v is not had", x)
		}
	}
}

func TestColumnsAtTheLimit(t *testing.T) {
	full := letters('a', MaxCols)
	x, y := make(api.Row, MaxCols), make(api.Row, MaxCols)
	y[MaxCols-1] = number(1)
	got, e := Of(full, []api.Row{y, x})
	expect(t, "Of(32 columns)", got, e, Rel{Cols: full, Rows: []api.Row{x, y}}, api.OK)
	for _, n := range []int{MaxCols + 1, 2 * MaxCols, 1 << 20} {
		got, e = Of(letters(0x10000, n), nil)
		expect(t, "Of(too many columns)", got, e, Rel{}, api.ErrArg)
	}
	got, e = Of(append(full[:MaxCols-1:MaxCols-1], "a"), nil)
	expect(t, "Of(32 columns, one twice)", got, e, Rel{}, api.ErrArg)
}

func TestRowsAtTheLimit(t *testing.T) {
	full := numbers("x", 0, MaxRows)
	turned := slices.Clone(full.Rows)
	slices.Reverse(turned)
	got, e := Of(full.Cols, slices.Concat(turned, full.Rows, turned))
	expect(t, "Of(as many unlike rows as may be, each thrice)", got, e, full, api.OK)
	got, e = Of(full.Cols, append(slices.Clip(turned), row("-1")))
	expect(t, "Of(a row too many)", got, e, Rel{}, api.ErrRows)
	got, e = Of(full.Cols, append(slices.Clip(turned), row("-1 1")))
	expect(t, "Of(a row too many, and of another length)", got, e, Rel{}, api.ErrArg)
	got, e = Of([]string{"x", "x"}, append(slices.Clip(turned), row("-1")))
	expect(t, "Of(a row too many, a name twice)", got, e, Rel{}, api.ErrArg)
}

func TestMay(t *testing.T) {
	for _, r := range []Rel{
		{},
		{Cols: []string{}, Rows: []api.Row{}},
		rel("", ""),
		rel("x"),
		{Cols: []string{""}},
		rel("x", "1"),
		rel("y x", "1 2", "1 3", "2 1", `2 "a"`, "2 !0"),
		{Cols: []string{"x", "X", "x ", "?x", "0"}},
		{Cols: letters('a', MaxCols), Rows: []api.Row{make(api.Row, MaxCols)}},
		{Cols: []string{"x"}, Rows: []api.Row{{{Kind: -3, N: 2, S: "a"}}, {{}}, {{Kind: 99}}}},
		numbers("x", 0, MaxRows),
	} {
		if !May(r) {
			t.Errorf("%s may not be", brief(r))
		}
	}
	for _, r := range mayNot() {
		if May(r) {
			t.Errorf("%s may be", brief(r))
		}
	}
}

// What may not be is refused by each call, ahead of all else.
func TestWhatMayNotBe(t *testing.T) {
	good, unit, wide := rel("x", "1"), rel("", ""), Rel{Cols: letters('A', MaxCols)}
	full := numbers("w", 0, MaxRows)
	for _, r := range mayNot() {
		all := func(api.Row) bool { return true }
		got, e := Project(r, nil)
		expect(t, "Project("+brief(r)+")", got, e, Rel{}, api.ErrArg)
		got, e = Rename(r, r.Cols)
		expect(t, "Rename("+brief(r)+")", got, e, Rel{}, api.ErrArg)
		got, e = Rename(r, letters('a', len(r.Cols)))
		expect(t, "Rename("+brief(r)+", letters)", got, e, Rel{}, api.ErrArg)
		got, e = Select(r, all)
		expect(t, "Select("+brief(r)+")", got, e, Rel{}, api.ErrArg)
		for name, both := range map[string]func(a, b Rel) (Rel, api.Errno){"Join": Join, "Or": Or, "Without": Without} {
			for _, other := range []Rel{good, unit, wide, full, r, {}, {Cols: r.Cols}} {
				got, e = both(r, other)
				expect(t, name+"("+brief(r)+", "+brief(other)+")", got, e, Rel{}, api.ErrArg)
				got, e = both(other, r)
				expect(t, name+"("+brief(other)+", "+brief(r)+")", got, e, Rel{}, api.ErrArg)
			}
		}
		for _, x := range r.Rows[:min(len(r.Rows), 5)] {
			if Has(r, x) {
				t.Errorf("Has(%s, %v)", brief(r), x)
			}
		}
	}
}

func TestHas(t *testing.T) {
	r := rel("x y", "1 2", "1 4", `2 "a"`, `2 !0`)
	for _, x := range r.Rows {
		if !Has(r, slices.Clone(x)) {
			t.Errorf("%v is not had", x)
		}
	}
	for _, s := range []string{"", "1", "2", "1 3", "1 2 3", "0 0", "9 9", "2 1", "true 2", `1 "2"`, "1 2 1 2"} {
		if Has(r, row(s)) {
			t.Errorf("%s is had", s)
		}
	}
	if Has(Rel{}, nil) || !Has(rel("", ""), nil) || !Has(rel("", ""), api.Row{}) || Has(rel("", ""), row("1")) || Has(rel("x"), nil) {
		t.Error("of the row without values")
	}
	full := numbers("x", 0, MaxRows)
	if !Has(full, row("0")) || !Has(full, row("99999")) || Has(full, row("100000")) || Has(full, row("-1")) {
		t.Error("of a full relation")
	}
}
