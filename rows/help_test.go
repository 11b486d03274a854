package rows

import (
	"fmt"
	"slices"
	"strings"
	"testing"

	"daybook/api"
	"daybook/value"
)

func number(n int64) api.Value { return api.Value{Kind: api.KInt, N: n} }

// row is the row of a text: its values, with blanks between.
func row(s string) api.Row {
	var x api.Row
	for _, f := range strings.Fields(s) {
		v, e := value.Parse(f)
		if e != api.OK {
			panic(f)
		}
		x = append(x, v)
	}
	return x
}

// rel is columns, with blanks between, and rows, just as they are told.
func rel(cols string, l ...string) Rel {
	r := Rel{Cols: strings.Fields(cols)}
	for _, s := range l {
		r.Rows = append(r.Rows, row(s))
	}
	return r
}

// numbers is a relation of one column with the numbers from some on, ahead of others.
func numbers(col string, from, to int) Rel {
	r := Rel{Cols: []string{col}}
	for n := from; n < to; n++ {
		r.Rows = append(r.Rows, api.Row{number(int64(n))})
	}
	return r
}

// letters are so many columns, each of one letter from a on, or what stands behind these.
func letters(from rune, n int) []string {
	var cols []string
	for i := range n {
		cols = append(cols, string(from+rune(i)))
	}
	return cols
}

func sameRow(a, b api.Row) bool { return slices.Equal(a, b) }

func sameRows(a, b []api.Row) bool { return slices.EqualFunc(a, b, sameRow) }

func same(a, b Rel) bool { return slices.Equal(a.Cols, b.Cols) && sameRows(a.Rows, b.Rows) }

func none(r Rel) bool { return len(r.Cols) == 0 && len(r.Rows) == 0 }

func copied(r Rel) Rel {
	c := Rel{Cols: slices.Clone(r.Cols)}
	for _, x := range r.Rows {
		c.Rows = append(c.Rows, slices.Clone(x))
	}
	return c
}

// brief is a relation as a text that is not too long.
func brief(r Rel) string {
	const most = 20
	cols := r.Cols
	if len(cols) > most {
		cols = append(slices.Clone(cols[:most]), "..")
	}
	said := []string{"(" + strings.Join(cols, " ") + ")"}
	for i, x := range r.Rows {
		if i == most {
			said = append(said, "..")
			break
		}
		var values []string
		for _, v := range x {
			s, e := value.Text(v)
			if e != api.OK {
				s = fmt.Sprint(v)
			}
			values = append(values, s)
		}
		said = append(said, "["+strings.Join(values, " ")+"]")
	}
	return strings.Join(said, " ")
}

// expect asks for a relation, or (where that is none) for an error.
func expect(t *testing.T, call string, got Rel, e api.Errno, want Rel, wantE api.Errno) {
	t.Helper()
	if e != wantE || !same(got, want) || e == api.OK && !May(got) {
		t.Errorf("%s = %s, %v, want %s, %v", call, brief(got), e, brief(want), wantE)
	}
}

// mayNot are relations that may not be, each for one thing alone.
func mayNot() []Rel {
	wide := Rel{Cols: letters('a', MaxCols+1)}
	return []Rel{
		rel("x x"),
		rel("x y x", "1 2 3"),
		{Cols: []string{"", ""}},
		wide,
		{Cols: wide.Cols, Rows: []api.Row{make(api.Row, MaxCols+1)}},
		rel("x", "1 2"),
		rel("x y", "1"),
		rel("x", ""),
		rel("", "1"),
		rel("x y", "1 2", "1 3", "1 3 4"),
		rel("x y", "1 2", "1", "1 3"),
		rel("x", "1", "1"),
		rel("x", "2", "1"),
		rel("x y", "1 2", "2 1", "2 1"),
		rel("x y", "1 2", "2 2", "2 1"),
		rel("x", "1", "2", "3", "5", "4"),
		rel("x", "!1", "2"),
		rel("", "", ""),
		numbers("x", 0, MaxRows+1),
	}
}
