package fold

import (
	"fmt"
	"math"
	"slices"
	"strings"
	"testing"

	"daybook/api"
	"daybook/rows"
	"daybook/value"
)

const (
	least = math.MinInt64
	most  = math.MaxInt64
)

// list are the values of texts, with blanks between.
func list(s string) []api.Value {
	var l []api.Value
	for _, f := range strings.Fields(s) {
		v, e := value.Parse(f)
		if e != api.OK {
			panic(f)
		}
		l = append(l, v)
	}
	return l
}

func ints(l ...int64) []api.Value {
	var all []api.Value
	for _, n := range l {
		all = append(all, number(n))
	}
	return all
}

// rel is columns, with blanks between, and rows, just as they are told.
func rel(cols string, l ...string) rows.Rel {
	r := rows.Rel{Cols: strings.Fields(cols)}
	for _, s := range l {
		r.Rows = append(r.Rows, list(s))
	}
	return r
}

// numbers is a relation of one column with the numbers from some on, ahead of others.
func numbers(col string, from, to int64) rows.Rel {
	r := rows.Rel{Cols: []string{col}}
	for n := from; n < to; n++ {
		r.Rows = append(r.Rows, api.Row{number(n)})
	}
	return r
}

// letters are so many columns, each of one letter from some one on, or what stands behind these.
func letters(from rune, n int) []string {
	var cols []string
	for i := range n {
		cols = append(cols, string(from+rune(i)))
	}
	return cols
}

// asks are tellings: each an operation, a column (- is the empty one) and a name.
func asks(s string) []Agg {
	ops := map[string]int{"count": Count, "distinct": Distinct, "sum": Sum, "least": Least, "greatest": Greatest}
	var l []Agg
	for ask := range strings.SplitSeq(s, ",") {
		f := strings.Fields(ask)
		if len(f) == 0 {
			continue
		}
		l = append(l, Agg{ops[f[0]], strings.TrimPrefix(f[1], "-"), f[2]})
	}
	return l
}

// counts are so many tellings of the first operation, with names of one letter from some one on.
func counts(from rune, n int) []Agg {
	var l []Agg
	for _, c := range letters(from, n) {
		l = append(l, Agg{Count, "", c})
	}
	return l
}

func sameRow(a, b api.Row) bool { return slices.Equal(a, b) }

func same(a, b rows.Rel) bool {
	return slices.Equal(a.Cols, b.Cols) && slices.EqualFunc(a.Rows, b.Rows, sameRow)
}

func copied(r rows.Rel) rows.Rel {
	c := rows.Rel{Cols: slices.Clone(r.Cols)}
	for _, x := range r.Rows {
		c.Rows = append(c.Rows, slices.Clone(x))
	}
	return c
}

// some are the first ones of a list: enough to tell of it.
func some[T any](l []T) []T { return l[:min(len(l), 20)] }

// brief is a relation as a text that is not too long.
func brief(r rows.Rel) string {
	said := []string{"(" + strings.Join(some(r.Cols), " ") + ")"}
	for _, x := range some(r.Rows) {
		var values []string
		for _, v := range some(x) {
			s, e := value.Text(v)
			if e != api.OK {
				s = fmt.Sprint(v)
			}
			values = append(values, s)
		}
		said = append(said, "["+strings.Join(values, " ")+"]")
	}
	return strings.Join(said, " ")
}

// expect asks what is told of groups, or (where that is none) for an error.
func expect(t *testing.T, r rows.Rel, by []string, l []Agg, want rows.Rel, wantE api.Errno) {
	t.Helper()
	got, e := Fold(r, by, l)
	if e != wantE || !same(got, want) || !rows.May(got) {
		t.Errorf("Fold(%s, %q, %v) = %s, %v, want %s, %v", brief(r), some(by), some(l), brief(got), e, brief(want), wantE)
	}
}

// expectGroups asks for groups, or (where there are none) for an error.
func expectGroups(t *testing.T, r rows.Rel, by []string, want []rows.Rel, wantE api.Errno) {
	t.Helper()
	got, e := Groups(r, by)
	if e != wantE || !slices.EqualFunc(got, want, same) {
		t.Errorf("Groups(%s, %q) = %v, %v, want %v, %v", brief(r), some(by), some(got), e, some(want), wantE)
	}
	for _, g := range got {
		if !rows.May(g) {
			t.Errorf("Groups(%s, %q): %s may not be", brief(r), some(by), brief(g))
		}
	}
}

// mayNot are relations that may not be, each for one thing alone.
func mayNot() []rows.Rel {
	wide := letters('a', rows.MaxCols+1)
	return []rows.Rel{
		rel("x x"),
		rel("x y x", "1 2 3"),
		{Cols: wide},
		{Cols: wide, Rows: []api.Row{make(api.Row, len(wide))}},
		rel("x", "1 2"),
		rel("x y", "1"),
		rel("x", ""),
		rel("", "1"),
		rel("x y", "1 2", "1", "1 3"),
		rel("x", "1", "1"),
		rel("x", "2", "1"),
		rel("x y", "1 2", "2 2", "2 1"),
		rel("", "", ""),
		numbers("x", 0, rows.MaxRows+1),
	}
}
