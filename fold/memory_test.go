package fold

import (
	"slices"
	"testing"

	"daybook/api"
	"daybook/rows"
)

// roomy is a list with room behind it, in which something stands.
func roomy[T any](l []T, behind T) []T { return append(slices.Clone(l), behind, behind)[:len(l)] }

// roomyRel is a relation whose lists all have room behind them.
func roomyRel(r rows.Rel) rows.Rel {
	var l []api.Row
	for _, x := range r.Rows {
		l = append(l, roomy(x, number(99)))
	}
	return rows.Rel{Cols: roomy(r.Cols, "behind"), Rows: roomy(l, ints(98, 98))}
}

// whole is a relation with what stands in the room behind its lists.
func whole(r rows.Rel) rows.Rel {
	w := rows.Rel{Cols: r.Cols[:cap(r.Cols)]}
	for _, x := range r.Rows[:cap(r.Rows)] {
		w.Rows = append(w.Rows, x[:cap(x)])
	}
	return w
}

func spoilList[T any](l []T, with T) {
	l = l[:cap(l)]
	for i := range l {
		l[i] = with
	}
}

// spoil turns all that a relation's lists reach.
func spoil(r rows.Rel) {
	spoilList(r.Cols, "spoilt")
	for _, x := range r.Rows[:cap(r.Rows)] {
		spoilList(x, number(-77))
	}
	spoilList(r.Rows, ints(-66))
}

// handed is what calls are asked of, all of it with room behind.
type handed struct {
	r  rows.Rel
	by []string
	l  []Agg
}

func hand(r rows.Rel, by []string, l []Agg) handed {
	return handed{roomyRel(r), roomy(by, "behind"), roomy(l, Agg{As: "behind"})}
}

func (h handed) spoil() {
	spoil(h.r)
	spoilList(h.by, "spoilt")
	spoilList(h.l, Agg{As: "spoilt"})
}

// stays asks that all that was handed in, and what stands behind it, is as it was.
func (h handed) stays(t *testing.T, call func()) {
	t.Helper()
	r, by, l := copied(whole(h.r)), slices.Clone(h.by[:cap(h.by)]), slices.Clone(h.l[:cap(h.l)])
	call()
	if !same(whole(h.r), r) || !slices.Equal(h.by[:cap(h.by)], by) || !slices.Equal(h.l[:cap(h.l)], l) {
		t.Errorf("what was handed in is turned to %s, %q, %v", brief(whole(h.r)), h.by[:cap(h.by)], h.l[:cap(h.l)])
	}
}

func all() []handed {
	r := rel("x y z", "1 2 1", "1 2 2", "1 3 1", "2 1 1", "2 2 3")
	tell := asks("count - c, distinct x d, sum y s, least z l, greatest z g")
	return []handed{
		hand(r, []string{"y"}, tell),
		hand(r, []string{"x", "y", "z"}, nil),
		hand(r, []string{"z", "x"}, tell),
		hand(r, nil, tell),
		hand(rel("x y z", "1 2 1"), nil, tell),
	}
}

func TestMemoryOfFold(t *testing.T) {
	for _, h := range all() {
		var got rows.Rel
		h.stays(t, func() { got, _ = Fold(h.r, h.by, h.l) })
		if len(got.Rows) == 0 {
			t.Fatalf("nothing is told of %s", brief(h.r))
		}
		answer := copied(got)
		h.spoil()
		if !same(got, answer) {
			t.Errorf("the answer hangs on what was handed in: %s", brief(got))
		}
		apart(t, []rows.Rel{got})
	}
}

func TestMemoryOfGroups(t *testing.T) {
	for _, h := range all() {
		var got, answer []rows.Rel
		h.stays(t, func() { got, _ = Groups(h.r, h.by) })
		if len(got) == 0 {
			t.Fatalf("no groups of %s", brief(h.r))
		}
		for _, g := range got {
			answer = append(answer, copied(g))
		}
		h.spoil()
		if !slices.EqualFunc(got, answer, same) {
			t.Errorf("the answer hangs on what was handed in: %v", got)
		}
		apart(t, got)
	}
}

// apart asks that no two lists of relations share memory: one after the other is turned, and the others stay.
func apart(t *testing.T, l []rows.Rel) {
	t.Helper()
	var kept []rows.Rel
	for _, r := range l {
		kept = append(kept, copied(r))
	}
	for i, r := range l {
		spoilList(r.Cols, "turned")
		copy(kept[i].Cols, r.Cols)
		for j, x := range r.Rows {
			spoilList(x, number(-55))
			copy(kept[i].Rows[j], x)
			if !slices.EqualFunc(l, kept, same) {
				t.Fatalf("lists of the answer share memory: %v", l)
			}
		}
		spoilList(r.Rows, ints(-44))
		for j := range kept[i].Rows {
			kept[i].Rows[j] = ints(-44)
		}
		if !slices.EqualFunc(l, kept, same) {
			t.Fatalf("lists of the answer share memory: %v", l)
		}
	}
}

func TestMemoryOfTotal(t *testing.T) {
	for _, l := range [][]api.Value{ints(3, 1, 2), ints(most, 1), append(ints(2), api.Value{Kind: 9})} {
		l := roomy(l, number(99))
		kept := slices.Clone(l[:cap(l)])
		Total(l)
		if !slices.Equal(l[:cap(l)], kept) {
			t.Errorf("what was handed in is turned to %v", l[:cap(l)])
		}
	}
}

// Also where there is an error, all that was handed in stays as it was.
func TestMemoryOfErrors(t *testing.T) {
	r := rel("y x", "1 2", `2 "a"`, "3 2")
	down := rows.Rel{Cols: []string{"y", "x"}, Rows: []api.Row{ints(2, 1), ints(1, 2)}}
	for _, h := range []handed{
		hand(r, []string{"x"}, asks("sum y b, sum x a")),
		hand(r, []string{"x", "x"}, asks("count - c")),
		hand(r, []string{"x"}, asks("count - x")),
		hand(r, []string{"x"}, counts('A', 40)),
		hand(down, []string{"x"}, asks("count - c")),
	} {
		h.stays(t, func() {
			if _, e := Fold(h.r, h.by, h.l); e == api.OK {
				t.Error("no error")
			}
			Groups(h.r, h.by)
		})
	}
}
