package rows

import (
	"slices"
	"testing"

	"daybook/api"
)

// roomy is a list with room behind it, in which something stands.
func roomy[T any](l []T, behind T) []T { return append(slices.Clone(l), behind, behind)[:len(l)] }

// roomyRel is a relation whose lists all have room behind them.
func roomyRel(r Rel) Rel {
	var l []api.Row
	for _, x := range r.Rows {
		l = append(l, roomy(x, number(99)))
	}
	return Rel{Cols: roomy(r.Cols, "behind"), Rows: roomy(l, row("98 98"))}
}

// whole is a relation with what stands in the room behind its lists.
func whole(r Rel) Rel {
	w := Rel{Cols: r.Cols[:cap(r.Cols)]}
	for _, x := range r.Rows[:cap(r.Rows)] {
		w.Rows = append(w.Rows, x[:cap(x)])
	}
	return w
}

// spoil turns all that a relation's lists reach.
func spoil(r Rel) {
	spoilList(r.Cols, "spoilt")
	for _, x := range r.Rows[:cap(r.Rows)] {
		spoilList(x, number(-77))
	}
	spoilList(r.Rows, row("-66"))
}

func spoilList[T any](l []T, with T) {
	l = l[:cap(l)]
	for i := range l {
		l[i] = with
	}
}

// calls are calls of all that answers a relation, of two relations, and columns of the first one.
var calls = map[string]func(a, b Rel, cols []string) (Rel, api.Errno){
	"Of":      func(a, b Rel, cols []string) (Rel, api.Errno) { return Of(a.Cols, append(a.Rows, a.Rows...)) },
	"Of one":  func(a, b Rel, cols []string) (Rel, api.Errno) { return Of(a.Cols, a.Rows) },
	"Project": func(a, b Rel, cols []string) (Rel, api.Errno) { return Project(a, cols) },
	"Rename":  func(a, b Rel, cols []string) (Rel, api.Errno) { return Rename(a, cols) },
	"Join":    func(a, b Rel, cols []string) (Rel, api.Errno) { return Join(a, b) },
	"Unit":    func(a, b Rel, cols []string) (Rel, api.Errno) { return Join(a, rel("", "")) },
	"Unit of": func(a, b Rel, cols []string) (Rel, api.Errno) { return Join(rel("", ""), a) },
	"Self":    func(a, b Rel, cols []string) (Rel, api.Errno) { return Join(a, a) },
	"Or":      func(a, b Rel, cols []string) (Rel, api.Errno) { return Or(a, b) },
	"Or self": func(a, b Rel, cols []string) (Rel, api.Errno) { return Or(a, a) },
	"Or none": func(a, b Rel, cols []string) (Rel, api.Errno) { return Or(a, Rel{Cols: cols}) },
	"Without": func(a, b Rel, cols []string) (Rel, api.Errno) { return Without(a, b) },
	"Less":    func(a, b Rel, cols []string) (Rel, api.Errno) { return Without(a, Rel{}) },
	"Select":  func(a, b Rel, cols []string) (Rel, api.Errno) { return Select(a, func(api.Row) bool { return true }) },
}

func TestMemory(t *testing.T) {
	for name, call := range calls {
		a, b, cols := roomyRel(rel("x y", "1 2", "1 3", "2 2")), roomyRel(rel("y x", "2 1", "3 2", "4 1")), roomy([]string{"y", "x"}, "behind")
		if name == "Of" {
			a.Rows = slices.Clip(a.Rows)
		}
		keptA, keptB, keptCols := copied(whole(a)), copied(whole(b)), slices.Clone(cols[:cap(cols)])
		got, e := call(a, b, cols)
		if e != api.OK || len(got.Rows) == 0 {
			t.Fatalf("%s: %s, %v", name, brief(got), e)
		}
		if !same(whole(a), keptA) || !same(whole(b), keptB) || !slices.Equal(cols[:cap(cols)], keptCols) {
			t.Errorf("%s: what was handed in is turned to %s, %s, %v", name, brief(whole(a)), brief(whole(b)), cols[:cap(cols)])
		}
		answer := copied(got)
		spoil(a)
		spoil(b)
		spoilList(cols, "spoilt")
		if !same(got, answer) {
			t.Errorf("%s: the answer hangs on what was handed in: %s", name, brief(got))
		}
		// No two lists of the answer share memory.
		for i := range got.Rows {
			spoilList(got.Rows[i], number(-55))
			copy(answer.Rows[i], got.Rows[i])
			if !same(got, answer) {
				t.Fatalf("%s: rows share memory: %s", name, brief(got))
			}
		}
	}
}

// What is asked for alone leaves what is handed in as it is, too.
func TestAsking(t *testing.T) {
	a, x := roomyRel(rel("x y", "1 2", "1 3", "2 2")), roomy(row("1 3"), number(99))
	kept, keptX := copied(whole(a)), slices.Clone(x[:cap(x)])
	if !May(a) || !Has(a, x) || Compare(x, a.Rows[1]) != 0 || Compare(a.Rows[0], x) != -1 {
		t.Error("not so")
	}
	if !same(whole(a), kept) || !slices.Equal(x[:cap(x)], keptX) {
		t.Errorf("what was handed in is turned to %s, %v", brief(whole(a)), x[:cap(x)])
	}
}
