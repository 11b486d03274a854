package fold

import (
	"math/rand"
	"slices"
	"strings"
	"testing"

	"daybook/api"
	"daybook/rows"
	"daybook/value"
)

// The model goes by the chapter's words: each row is held against each group that there is, and what is told is reckoned of the group's rows as they come.

func modelBy(r rows.Rel, x api.Row, by []string) api.Row {
	var v api.Row
	for _, c := range by {
		v = append(v, x[slices.Index(r.Cols, c)])
	}
	return v
}

func modelGroups(r rows.Rel, by []string) []rows.Rel {
	var all []rows.Rel
putting:
	for _, x := range r.Rows {
		v := modelBy(r, x, by)
		for i, g := range all {
			switch rows.Compare(v, modelBy(r, g.Rows[0], by)) {
			case 0:
				all[i].Rows = append(g.Rows, x)
				continue putting
			case -1:
				all = slices.Insert(all, i, rows.Rel{Cols: r.Cols, Rows: []api.Row{x}})
				continue putting
			}
		}
		all = append(all, rows.Rel{Cols: r.Cols, Rows: []api.Row{x}})
	}
	return all
}

func modelTell(g rows.Rel, a Agg) (api.Value, api.Errno) {
	if a.Op == Count {
		return number(int64(len(g.Rows))), api.OK
	}
	var l []api.Value
	unlike := map[api.Value]bool{}
	for _, x := range g.Rows {
		v := x[slices.Index(g.Cols, a.Col)]
		l = append(l, v)
		unlike[v] = true
	}
	switch a.Op {
	case Distinct:
		return number(int64(len(unlike))), api.OK
	case Sum:
		return modelTotal(l)
	}
	best := l[0]
	for _, v := range l {
		if stands := value.Compare(v, best); a.Op == Least && stands < 0 || a.Op == Greatest && stands > 0 {
			best = v
		}
	}
	return best, api.OK
}

func modelFold(r rows.Rel, by []string, l []Agg) (rows.Rel, api.Errno) {
	cols := slices.Clone(by)
	for _, a := range l {
		wrong := a.Op < Count || a.Op > Greatest || a.Op == Count && a.Col != "" || a.Op != Count && !slices.Contains(r.Cols, a.Col)
		if wrong || slices.Contains(cols, a.As) {
			return rows.Rel{}, api.ErrArg
		}
		cols = append(cols, a.As)
	}
	if len(cols) > rows.MaxCols {
		return rows.Rel{}, api.ErrRows
	}
	told := rows.Rel{Cols: cols}
	for _, g := range modelGroups(r, by) {
		x := modelBy(r, g.Rows[0], by)
		for _, a := range l {
			v, e := modelTell(g, a)
			if e != api.OK {
				return rows.Rel{}, e
			}
			x = append(x, v)
		}
		told.Rows = append(told.Rows, x)
	}
	return told, api.OK
}

// drawnRel is a relation of few values, so that groups have some rows; of any values, or of numbers alone.
func drawnRel(r *rand.Rand, pool []api.Value) rows.Rel {
	cols := letters('a', r.Intn(5))
	r.Shuffle(len(cols), func(i, j int) { cols[i], cols[j] = cols[j], cols[i] })
	var l []api.Row
	for range r.Intn(30) {
		var x api.Row
		for range cols {
			x = append(x, pool[r.Intn(len(pool))])
		}
		l = append(l, x)
	}
	drawn, e := rows.Of(cols, l)
	if e != api.OK {
		panic(e)
	}
	return drawn
}

// drawnBy are some of a relation's columns, in any order.
func drawnBy(r *rand.Rand, cols []string) []string {
	by := slices.Clone(cols)
	r.Shuffle(len(by), func(i, j int) { by[i], by[j] = by[j], by[i] })
	return by[:r.Intn(len(by)+1)]
}

// drawnAsks are mostly tellings of a relation.
func drawnAsks(r *rand.Rand, cols []string) []Agg {
	var l []Agg
	for i := range r.Intn(5) {
		a := Agg{Op: 1 + r.Intn(5), As: strings.Repeat("z", i+1)}
		if a.Op != Count && len(cols) > 0 {
			a.Col = cols[r.Intn(len(cols))]
		}
		switch r.Intn(60) {
		case 0:
			a.Op = r.Intn(9) - 1
		case 1:
			a.Col = letters('a', 6)[r.Intn(6)]
		case 2:
			a.As = letters('a', 6)[r.Intn(6)]
		}
		l = append(l, a)
	}
	return l
}

func drawnPools() [][]api.Value {
	return [][]api.Value{
		ints(1, 2, 3),
		ints(-2, 0, 5, most, least, most-1, -1),
		list(`1 2 "a" "b" #61 @1 @2 !1 :a true`),
		append(list(`1 "a" !1`), api.Value{}, api.Value{Kind: api.KInt, N: 1, S: "a"}, api.Value{Kind: 50}),
	}
}

func TestAsTheModel(t *testing.T) {
	r := rand.New(rand.NewSource(2))
	ended := map[api.Errno]int{}
	for range 10000 {
		for _, pool := range drawnPools() {
			x := drawnRel(r, pool)
			by, l := drawnBy(r, x.Cols), drawnAsks(r, x.Cols)
			want, e := modelFold(x, by, l)
			expect(t, x, by, l, want, e)
			expectGroups(t, x, by, modelGroups(x, by), api.OK)
			ended[e]++
		}
	}
	for _, e := range []api.Errno{api.OK, api.ErrArg, api.ErrFold} {
		if ended[e] < 1000 {
			t.Errorf("%v of 40000 ended with %v", ended[e], e)
		}
	}
}
