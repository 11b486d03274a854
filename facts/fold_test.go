package facts

import (
	"cmp"
	"math"
	"math/rand"
	"slices"
	"testing"

	"daybook/api"
	"daybook/datom"
)

// said is a datom of E 5, A 10, V 1.
func said(t int64, add bool, from, to int64) api.Datom {
	return api.Datom{E: 5, A: 10, V: number(1), T: t, Add: add, From: from, To: to}
}

// chapter are the datoms of the chapter's examples.
func chapter() []api.Datom { return []api.Datom{said(1, true, 0, 10), said(2, false, 4, 6)} }

// badDatoms are datoms that may not be, each for one thing alone.
func badDatoms() []api.Datom {
	var l []api.Datom
	for _, turn := range []func(*api.Datom){
		func(d *api.Datom) { d.E = -1 }, func(d *api.Datom) { d.E = api.MaxEntity }, func(d *api.Datom) { d.A = -1 }, func(d *api.Datom) { d.A = api.MaxEntity },
		func(d *api.Datom) { d.V = api.Value{} }, func(d *api.Datom) { d.V.S = "a" }, func(d *api.Datom) { d.V = api.Value{Kind: api.KRef, N: -1} },
		func(d *api.Datom) { d.From = d.To }, func(d *api.Datom) { d.From, d.To = d.To, d.From }, func(d *api.Datom) { d.T = api.MaxTx + 1 },
	} {
		d := said(3, true, 0, 10)
		turn(&d)
		l = append(l, d)
	}
	return l
}

// model folds datoms stretch by stretch, where all spans' ends cut time, and says whether they go together.
func model(l []api.Datom) ([]api.Fact, bool) {
	var cuts, txs []int64
	var triples []triple
	for _, d := range l {
		if datom.Check(d) != api.OK {
			return nil, false
		}
		cuts, txs = append(cuts, d.From, d.To), append(txs, d.T)
		triples = append(triples, triple{d.E, d.A, d.V})
	}
	slices.Sort(cuts)
	slices.Sort(txs)
	slices.SortFunc(triples, func(p, q triple) int {
		return cmp.Or(cmp.Compare(p.e, q.e), cmp.Compare(p.a, q.a), cmp.Compare(p.v.Kind, q.v.Kind), cmp.Compare(p.v.N, q.v.N), cmp.Compare(p.v.S, q.v.S))
	})
	var folded []api.Fact
	for _, p := range slices.Compact(triples) {
		f := api.Fact{E: p.e, A: p.a, V: p.v}
		for i := 1; i < len(cuts); i++ {
			from, to := cuts[i-1], cuts[i]
			holds, ok := modelAt(l, p, from, slices.Compact(txs))
			if !ok && from < to {
				return nil, false
			}
			if !holds || from == to {
				continue
			}
			if last := len(f.Spans) - 1; last >= 0 && f.Spans[last].To == from {
				f.Spans[last].To = to
			} else {
				f.Spans = append(f.Spans, api.Span{From: from, To: to})
			}
		}
		if len(f.Spans) > 0 {
			folded = append(folded, f)
		}
	}
	return folded, true
}

// modelAt says whether a triple holds at an instant, and whether no transaction says both.
func modelAt(l []api.Datom, p triple, at int64, txs []int64) (holds, ok bool) {
	for _, tx := range txs {
		adds, cuts := false, false
		for _, d := range l {
			if d.T == tx && d.E == p.e && d.A == p.a && d.V == p.v && d.From <= at && at < d.To {
				adds, cuts = adds || d.Add, cuts || !d.Add
			}
		}
		if adds && cuts {
			return false, false
		}
		holds = adds || holds && !cuts
	}
	return holds, true
}

// wantFold holds Fold, and Of of all, against what is wanted of it; with no facts wanted that go together, ErrFacts.
func wantFold(t *testing.T, l []api.Datom, want []api.Fact, together bool) {
	t.Helper()
	wantErr := api.OK
	if !together {
		want, wantErr = nil, api.ErrFacts
	}
	if got, e := Fold(l); e != wantErr || !sameFacts(got, want) || Check(got) != api.OK {
		t.Fatalf("Fold(%v) = %v, %v, want %v, %v", l, got, e, want, wantErr)
	}
	if got, e := Of(l, api.View{}); e != wantErr || !sameFacts(got, want) {
		t.Fatalf("Of(%v) = %v, %v, want %v, %v", l, got, e, want, wantErr)
	}
}

func TestFold(t *testing.T) {
	for _, x := range []struct {
		l    []api.Datom
		want []int64
	}{
		{nil, nil}, {[]api.Datom{}, nil},
		{chapter(), []int64{0, 4, 6, 10}},
		{chapter()[1:], nil},
		// What comes later decides, wherever it stands in the list.
		{[]api.Datom{said(2, false, 4, 6), said(1, true, 0, 10)}, []int64{0, 4, 6, 10}},
		{[]api.Datom{said(1, false, 4, 6), said(2, true, 0, 10)}, []int64{0, 10}},
		{append(chapter(), said(3, true, 5, 7)), []int64{0, 4, 5, 10}},
		{append(chapter(), said(3, true, 4, 6)), []int64{0, 10}},
		{append(chapter(), said(3, false, 0, 10)), nil},
		{append(chapter(), said(3, false, never, ever), said(4, true, 5, 6)), []int64{5, 6}},
		{append(chapter(), said(api.MaxTx, true, never, ever)), []int64{never, ever}},
		// Twice the same, and spans of one transaction that meet.
		{append(chapter(), chapter()...), []int64{0, 4, 6, 10}},
		{[]api.Datom{said(1, true, 5, 9), said(1, true, 1, 3), said(1, true, 3, 4), said(1, true, 8, 10)}, []int64{1, 4, 5, 10}},
		// One transaction that adds and cuts, side by side.
		{[]api.Datom{said(1, true, 0, 10), said(2, false, 0, 5), said(2, true, 5, 20), said(2, false, 20, 30)}, []int64{5, 20}},
		{[]api.Datom{said(1, true, never, 0), said(1, false, 0, ever)}, []int64{never, 0}},
	} {
		var want []api.Fact
		if len(x.want) > 0 {
			want = []api.Fact{fact(5, 10, number(1), x.want...)}
		}
		wantFold(t, x.l, want, true)
	}
}

// Datoms that are unlike in E, A or V have nothing to do with one another, and their facts rise by E, A, V.
func TestFoldOfOtherTriples(t *testing.T) {
	l := []api.Datom{
		{E: 2, A: 1, V: number(1), T: 1, Add: true, From: 0, To: 9},
		{E: 1, A: 2, V: number(1), T: 1, Add: true, From: 1, To: 9},
		{E: 1, A: 1, V: api.Value{Kind: api.KTime, N: 1}, T: 2, Add: true, From: 2, To: 9},
		{E: 1, A: 1, V: number(2), T: 1, Add: true, From: 3, To: 9},
		{E: 1, A: 1, V: number(1), T: 2, Add: true, From: 4, To: 9},
		{E: 1, A: 1, V: number(-1), T: 2, Add: false, From: 0, To: 20},
		{E: 1, A: 3, V: number(1), T: 1, Add: false, From: 0, To: 20},
		{E: 3, A: 1, V: number(1), T: 1, Add: false, From: 0, To: 20},
		{E: 1, A: 1, V: number(1), T: 1, Add: false, From: 0, To: 20},
	}
	wantFold(t, l, []api.Fact{fact(1, 1, number(1), 4, 9), fact(1, 1, number(2), 3, 9), fact(1, 1, api.Value{Kind: api.KTime, N: 1}, 2, 9), fact(1, 2, number(1), 1, 9), fact(2, 1, number(1), 0, 9)}, true)
}

func TestFoldOfWhatDoesNotGoTogether(t *testing.T) {
	for _, x := range []struct {
		l        []api.Datom
		together bool
	}{
		{append(chapter(), said(2, true, 5, 7)), false},
		{append(chapter(), said(2, true, 3, 5)), false},
		{append(chapter(), said(2, true, 4, 6)), false},
		{append(chapter(), said(2, true, never, ever)), false},
		{append([]api.Datom{said(1, false, 9, 10)}, chapter()...), false},
		{[]api.Datom{said(7, false, 1, 2), said(7, true, 5, 9), said(7, true, 0, 2)}, false},
		{[]api.Datom{said(1, true, 0, 2), said(1, false, 1, 3), said(2, true, 0, 9)}, false},
		{[]api.Datom{said(1, true, ever-1, ever), said(1, false, ever-1, ever)}, false},
		{[]api.Datom{said(1, true, never, never+1), said(1, false, never, never+1)}, false},
		// Neighbours alone, other transactions.
		{append(chapter(), said(2, true, 3, 4)), true}, {append(chapter(), said(2, true, 6, 7)), true}, {append(chapter(), said(1, false, 10, 12)), true}, {append(chapter(), said(3, true, 5, 7)), true},
	} {
		want, together := model(x.l)
		if together != x.together {
			t.Fatalf("the model of %v: %v", x.l, together)
		}
		wantFold(t, x.l, want, x.together)
		for _, d := range []api.Datom{{E: 1, A: 1, V: number(1), T: 1, Add: true, From: 0, To: 1}, {E: 9, A: 1, V: number(1), T: 9, Add: true, From: 0, To: 1}} {
			more := append(slices.Clone(x.l), d)
			want, _ := model(more)
			wantFold(t, more, want, x.together)
		}
	}
	for _, d := range append(badDatoms(), api.Datom{}, said(0, true, 0, 1), said(-1, true, 0, 1), said(math.MinInt64, false, 0, 1)) {
		for _, l := range [][]api.Datom{{d}, append(chapter(), d), append([]api.Datom{d}, chapter()...)} {
			if got, e := Fold(l); e != api.ErrFacts || len(got) != 0 {
				t.Errorf("Fold(%v) = %v, %v, want nothing and ErrFacts", l, got, e)
			}
		}
	}
}

// All lists of at most three datoms of one triple in two transactions, and of its neighbours.
func TestFoldOfAllLists(t *testing.T) {
	var pool []api.Datom
	for _, tx := range []int64{1, 2} {
		for _, add := range []bool{true, false} {
			for _, s := range of(never, 0, 0, 5, never, 5, 0, ever) {
				pool = append(pool, said(tx, add, s.From, s.To))
			}
		}
	}
	for _, turn := range []func(*api.Datom){func(d *api.Datom) { d.E++ }, func(d *api.Datom) { d.A++ }, func(d *api.Datom) { d.V.N++ }, func(d *api.Datom) { d.Add, d.V.N = false, 0 }} {
		d := said(1, true, 0, 5)
		turn(&d)
		pool = append(pool, d)
	}
	lists := [][]api.Datom{nil}
	for len(lists[0]) < 3 {
		var longer [][]api.Datom
		for _, l := range lists {
			want, together := model(l)
			wantFold(t, l, want, together)
			for _, d := range pool {
				longer = append(longer, append(slices.Clone(l), d))
			}
		}
		lists = longer
	}
	for _, l := range lists {
		want, together := model(l)
		wantFold(t, l, want, together)
	}
}

// drawn are datoms at random, few of whose triples, transactions and instants are unlike.
func drawn(r *rand.Rand, most int) []api.Datom {
	values := []api.Value{number(1), number(-1), text("a"), {Kind: api.KRef, N: 1}}
	ends := []int64{never, -3, 0, 1, 2, 5, 8, ever}
	l := make([]api.Datom, r.Intn(most+1))
	for i := range l {
		from := r.Intn(len(ends) - 1)
		to := from + 1 + r.Intn(len(ends)-1-from)
		l[i] = api.Datom{E: int64(1 + r.Intn(2)), A: int64(1 + r.Intn(2)), V: values[r.Intn(len(values))], T: int64(1 + r.Intn(6)), Add: r.Intn(3) > 0, From: ends[from], To: ends[to]}
	}
	return l
}

// drawnTogether are datoms at random that go together: of those drawn each that goes with those ahead.
func drawnTogether(r *rand.Rand, most int) []api.Datom {
	var l []api.Datom
	for _, d := range drawn(r, most) {
		if _, ok := model(append(l[:len(l):len(l)], d)); ok {
			l = append(l, d)
		}
	}
	return l
}

// In whatever order datoms come, and how often, they are folded to the same.
func TestFoldOfDrawn(t *testing.T) {
	r := rand.New(rand.NewSource(1))
	clashes, folds := 0, 0
	for range 3000 {
		l := drawn(r, 30)
		if r.Intn(2) == 0 {
			l = drawnTogether(r, 30)
		}
		want, together := model(l)
		if together {
			folds++
		} else {
			clashes++
		}
		wantFold(t, l, want, together)
		for range r.Intn(len(l) + 1) {
			l = append(l, l[r.Intn(len(l))])
		}
		r.Shuffle(len(l), func(i, j int) { l[i], l[j] = l[j], l[i] })
		wantFold(t, l, want, together)
	}
	if clashes < 200 || folds < 1000 {
		t.Errorf("%d clashes, %d folds", clashes, folds)
	}
}

// Many transactions of one triple, each of which says something of other instants.
func TestFoldOfManyTransactions(t *testing.T) {
	const many = 30000
	var l []api.Datom
	var want []api.Span
	for i := range int64(many) {
		l = append(l, said(2*i+2, false, 10*i+3, 10*i+5), said(2*i+1, true, 10*i, 10*i+8))
		want = append(want, of(10*i, 10*i+3, 10*i+5, 10*i+8)...)
	}
	got, e := Fold(l)
	if e != api.OK || len(got) != 1 || !slices.Equal(got[0].Spans, want) {
		t.Errorf("Fold of %d datoms: %d facts, %v", len(l), len(got), e)
	}
}

// wrongMarks are numbers that a view's AsOf and Since may not be.
var wrongMarks = []int64{-1, math.MinInt64, api.MaxTx + 1, math.MaxInt64}

func TestDatoms(t *testing.T) {
	a, b, c, first := said(1, true, 0, 10), said(2, false, 4, 6), said(5, true, 0, 1), api.Datom{E: 4, A: 11, V: number(9), T: api.MaxTx, From: 0, To: 1}
	l := []api.Datom{c, a, first, b, a, c}
	for _, x := range []struct {
		v    api.View
		want []api.Datom
	}{
		{api.View{}, []api.Datom{first, a, b, c}},
		{api.View{AsOf: 1}, []api.Datom{a}}, {api.View{AsOf: 2}, []api.Datom{a, b}}, {api.View{AsOf: 4}, []api.Datom{a, b}}, {api.View{AsOf: 5}, []api.Datom{a, b, c}}, {api.View{AsOf: api.MaxTx - 1}, []api.Datom{a, b, c}}, {api.View{AsOf: api.MaxTx}, []api.Datom{first, a, b, c}},
		{api.View{Since: 1}, []api.Datom{first, b, c}}, {api.View{Since: 4}, []api.Datom{first, c}}, {api.View{Since: 5}, []api.Datom{first}}, {api.View{Since: api.MaxTx}, nil},
		{api.View{Since: 1, AsOf: 5}, []api.Datom{b, c}}, {api.View{Since: 2, AsOf: 2}, nil}, {api.View{Since: 5, AsOf: 2}, nil},
		// At, Valid and History make no difference.
		{api.View{Since: 1, AsOf: 5, At: true, Valid: 100}, []api.Datom{b, c}}, {api.View{Since: 1, AsOf: 5, History: true}, []api.Datom{b, c}}, {api.View{AsOf: 1, Valid: -1}, []api.Datom{a}},
	} {
		if got, e := Datoms(l, x.v); e != api.OK || !slices.Equal(got, x.want) {
			t.Errorf("Datoms(%v, %v) = %v, %v, want %v", l, x.v, got, e, x.want)
		}
	}
	for _, n := range wrongMarks {
		for _, v := range []api.View{{AsOf: n}, {Since: n}, {AsOf: n, Since: n}, {AsOf: n, Since: 1}, {AsOf: 1, Since: n}} {
			if got, e := Datoms(l, v); e != api.ErrArg || len(got) != 0 {
				t.Errorf("Datoms(%v, %v) = %v, %v, want nothing and ErrArg", l, v, got, e)
			}
		}
	}
	if got, e := Datoms(nil, api.View{}); e != api.OK || len(got) != 0 {
		t.Errorf("Datoms(nil) = %v, %v", got, e)
	}
}

// Whether datoms may be, and go together, Datoms does not ask: by their numbers alone they are in a view, or not.
func TestDatomsOfAny(t *testing.T) {
	none, zero, below, above := api.Datom{}, said(0, true, 0, 1), said(-5, true, 0, 1), said(api.MaxTx+1, true, 0, 1)
	clash, bad := said(1, false, 0, 1), api.Datom{E: -1, T: 1}
	l := []api.Datom{above, said(1, true, 0, 10), zero, none, clash, below, bad}
	for _, x := range []struct {
		v    api.View
		want []api.Datom
	}{
		{api.View{}, []api.Datom{bad, said(1, true, 0, 10), clash, above}},
		{api.View{AsOf: api.MaxTx}, []api.Datom{bad, said(1, true, 0, 10), clash}},
		{api.View{Since: api.MaxTx}, []api.Datom{above}},
	} {
		if got, e := Datoms(l, x.v); e != api.OK || !slices.Equal(got, x.want) {
			t.Errorf("Datoms(%v, %v) = %v, %v, want %v", l, x.v, got, e, x.want)
		}
	}
}

func TestOf(t *testing.T) {
	l := append(chapter(), said(3, true, 20, 30), api.Datom{E: 6, A: 10, V: number(2), T: 3, Add: true, From: never, To: ever})
	other := fact(6, 10, number(2), never, ever)
	of5 := func(l ...int64) api.Fact { return fact(5, 10, number(1), l...) }
	for _, x := range []struct {
		v    api.View
		want []api.Fact
	}{
		{api.View{}, []api.Fact{of5(0, 4, 6, 10, 20, 30), other}},
		{api.View{AsOf: 1}, []api.Fact{of5(0, 10)}}, {api.View{AsOf: 2}, []api.Fact{of5(0, 4, 6, 10)}}, {api.View{AsOf: api.MaxTx}, []api.Fact{of5(0, 4, 6, 10, 20, 30), other}},
		{api.View{Since: 1}, []api.Fact{of5(20, 30), other}}, {api.View{Since: 1, AsOf: 2}, nil}, {api.View{Since: 3}, nil},
		{api.View{At: true, Valid: 5}, []api.Fact{other}}, {api.View{At: true, Valid: 6}, []api.Fact{of5(0, 4, 6, 10, 20, 30), other}}, {api.View{At: true, Valid: 10}, []api.Fact{other}}, {api.View{At: true}, []api.Fact{of5(0, 4, 6, 10, 20, 30), other}},
		{api.View{At: true, Valid: 5, AsOf: 1}, []api.Fact{of5(0, 10)}}, {api.View{At: true, Valid: 5, AsOf: 2}, nil}, {api.View{At: true, Valid: 20, Since: 2}, []api.Fact{of5(20, 30), other}}, {api.View{At: true, Valid: ever}, nil}, {api.View{At: true, Valid: never}, []api.Fact{other}},
		// Valid is not looked at without At.
		{api.View{AsOf: 1, Valid: 100}, []api.Fact{of5(0, 10)}},
	} {
		if got, e := Of(l, x.v); e != api.OK || !sameFacts(got, x.want) {
			t.Errorf("Of(%v, %v) = %v, %v, want %v", l, x.v, got, e, x.want)
		}
	}
	for _, v := range []api.View{{Since: 1}, {At: true, Valid: 5}} {
		if got, e := Of(chapter(), v); e != api.OK || len(got) != 0 {
			t.Errorf("Of(%v, %v) = %v, %v, want none", chapter(), v, got, e)
		}
	}
}

// Of datoms that do not go together those of the view alone are asked; ahead of them the view is.
func TestOfWrong(t *testing.T) {
	for _, wrong := range append(badDatoms()[:9], said(3, false, 9, 11)) {
		l := append(chapter(), said(3, true, 10, 12), said(4, true, 50, 51), wrong)
		for _, x := range []struct {
			v    api.View
			want api.Errno
		}{
			{api.View{}, api.ErrFacts}, {api.View{AsOf: 3}, api.ErrFacts}, {api.View{Since: 2}, api.ErrFacts}, {api.View{AsOf: api.MaxTx, Since: 2, At: true, Valid: 50}, api.ErrFacts},
			{api.View{AsOf: 2}, api.OK}, {api.View{Since: 3}, api.OK}, {api.View{Since: 3, AsOf: 3}, api.OK},
			{api.View{History: true}, api.ErrArg}, {api.View{History: true, AsOf: 2}, api.ErrArg}, {api.View{History: true, Since: 3, At: true}, api.ErrArg}, {api.View{History: true, AsOf: -1}, api.ErrArg},
		} {
			got, e := Of(l, x.v)
			if e != x.want || e != api.OK && len(got) != 0 {
				t.Errorf("Of(%v, %v) = %v, %v, want %v", l, x.v, got, e, x.want)
			}
		}
		for _, n := range wrongMarks {
			for _, v := range []api.View{{AsOf: n}, {Since: n}, {AsOf: n, Since: 1}, {AsOf: 1, Since: n, At: true}} {
				if got, e := Of(l, v); e != api.ErrArg || len(got) != 0 {
					t.Errorf("Of(%v, %v) = %v, %v, want nothing and ErrArg", l, v, got, e)
				}
			}
		}
	}
}

// modelView are a view's datoms among some that may be.
func modelView(l []api.Datom, v api.View) []api.Datom {
	return slices.DeleteFunc(slices.Clone(l), func(d api.Datom) bool { return d.T <= v.Since || v.AsOf != 0 && d.T > v.AsOf })
}

// Of a view are the facts of its datoms, and stay these, whatever comes behind it.
func TestOfDrawn(t *testing.T) {
	r := rand.New(rand.NewSource(2))
	clashes, told := 0, 0
	for range 3000 {
		l := drawn(r, 30)
		v := api.View{AsOf: int64(r.Intn(7)), Since: int64(r.Intn(4)), At: r.Intn(2) == 0, Valid: int64(r.Intn(12) - 3)}
		want, together := model(modelView(l, v))
		wantErr := api.OK
		if !together {
			wantErr = api.ErrFacts
		} else if v.At {
			want = slices.DeleteFunc(want, func(f api.Fact) bool {
				return !slices.ContainsFunc(f.Spans, func(s api.Span) bool { return s.From <= v.Valid && v.Valid < s.To })
			})
		}
		got, e := Of(l, v)
		if e != wantErr || !sameFacts(got, want) {
			t.Fatalf("Of(%v, %v) = %v, %v, want %v, %v", l, v, got, e, want, wantErr)
		}
		if !together {
			clashes++
		}
		told += len(got)
		seen, e := Datoms(l, v)
		if rows := datom.Sorted(api.EAVT, modelView(l, v)); e != api.OK || !slices.Equal(seen, rows) {
			t.Fatalf("Datoms(%v, %v) = %v, %v, want %v", l, v, seen, e, rows)
		}
		if v.AsOf == 0 {
			continue
		}
		for _, d := range append(drawn(r, 20), badDatoms()...) {
			d.T += v.AsOf + 1
			l = append(l, d)
		}
		if again, e := Of(l, v); e != wantErr || !sameFacts(again, got) {
			t.Fatalf("Of(%v, %v) = %v, %v, was %v, %v", l, v, again, e, got, wantErr)
		}
	}
	if clashes < 200 || told < 1000 {
		t.Errorf("%d clashes, %d facts", clashes, told)
	}
}

func TestNewMemoryOfFolds(t *testing.T) {
	r := rand.New(rand.NewSource(3))
	for range 300 {
		room := append(drawnTogether(r, 30), said(9, true, 0, 1), said(9, false, 0, 1))
		l := room[:len(room)-2]
		kept := slices.Clone(room)
		folded, e1 := Fold(l)
		viewed, e2 := Of(l, api.View{AsOf: 4, At: true, Valid: 1})
		seen, e3 := Datoms(l, api.View{AsOf: 4})
		if e1 != api.OK || e2 != api.OK || e3 != api.OK || !slices.Equal(room, kept) {
			t.Fatalf("%v, %v, %v, or what was handed in was turned", e1, e2, e3)
		}
		if !eachOwn(folded) || !eachOwn(viewed) {
			t.Fatal("two facts share their spans")
		}
		seen = seen[:cap(seen)]
		for i := range seen {
			seen[i] = api.Datom{}
		}
		if !slices.Equal(room, kept) {
			t.Fatal("what Datoms answers is what was handed in")
		}
	}
}

// What tells runs stops when no more are wanted, and tells them all when asked again.
func TestRunsStop(t *testing.T) {
	l := []api.Datom{said(1, true, 0, 1), said(1, true, 1, 2), said(2, true, 0, 1), said(3, true, 0, 1), said(1, true, 2, 3)}
	told := runs(l, func(d api.Datom) int64 { return d.T })
	keys, sizes := []int64{1, 2, 3, 1}, []int{2, 1, 1, 1}
	for most := 1; most <= len(keys); most++ {
		n, at := 0, 0
		for key, run := range told {
			if key != keys[n] || !slices.Equal(run, l[at:at+sizes[n]]) {
				t.Fatalf("run %d of %d: %d, %v", n, most, key, run)
			}
			at += len(run)
			if n++; n == most {
				break
			}
		}
	}
}
