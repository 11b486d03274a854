package datom

import (
	"cmp"
	"math"
	"math/rand"
	"slices"
	"strings"
	"testing"

	"daybook/api"
	"daybook/value"
)

var orders = []int{api.EAVT, api.AEVT, api.AVET, api.VAET}

var noOrders = []int{0, -1, 5, 8, 256 + api.EAVT, math.MinInt, math.MaxInt}

func ref(n int64) api.Value { return api.Value{Kind: api.KRef, N: n} }

func text(s string) api.Value { return api.Value{Kind: api.KText, S: s} }

// example is the datom of the chapter's examples.
func example() api.Datom {
	return api.Datom{E: 5, A: 10, V: ref(7), T: 1, Add: true, From: api.MinTime, To: api.MaxTime}
}

// turned is the example with something turned.
func turned(turn func(*api.Datom)) api.Datom {
	d := example()
	turn(&d)
	return d
}

// may are datoms that may be, with the ends of entities, transactions, instants and values among them.
func may() []api.Datom {
	l := []api.Datom{example()}
	for _, n := range []int64{0, 1, 255, 256, api.MaxEntity - 1} {
		l = append(l, turned(func(d *api.Datom) { d.E = n }), turned(func(d *api.Datom) { d.A = n }), turned(func(d *api.Datom) { d.V.N = n }))
	}
	for _, n := range []int64{1, 2, 256, api.MaxTx} {
		l = append(l, turned(func(d *api.Datom) { d.T = n }), turned(func(d *api.Datom) { d.T, d.Add = n, false }))
	}
	for _, s := range []api.Span{{From: api.MinTime, To: api.MinTime + 1}, {From: api.MaxTime - 1, To: api.MaxTime}, {From: -1, To: 0}, {From: 0, To: 1}, {From: -5, To: 5}} {
		l = append(l, turned(func(d *api.Datom) { d.From, d.To = s.From, s.To }), turned(func(d *api.Datom) { d.From, d.To, d.Add = s.From, s.To, false }))
	}
	for _, v := range []api.Value{
		{Kind: api.KInt, N: math.MinInt64}, {Kind: api.KInt}, {Kind: api.KInt, N: 7}, {Kind: api.KInt, N: math.MaxInt64},
		{Kind: api.KBool}, {Kind: api.KBool, N: 1}, text(""), text("\x00"), text("a"), text("a\x00"), text("ab"), text(strings.Repeat("\xff", api.MaxText)),
		{Kind: api.KBytes}, {Kind: api.KBytes, S: "\x00\x01"}, {Kind: api.KTime, N: -1}, {Kind: api.KTime, N: 7}, {Kind: api.KWord, S: "a/b"},
	} {
		l = append(l, turned(func(d *api.Datom) { d.V = v }))
	}
	return l
}

// mayNot are datoms that may not be, each for one thing alone.
func mayNot() []api.Datom {
	l := []api.Datom{{}}
	for _, n := range []int64{-1, math.MinInt64, api.MaxEntity, math.MaxInt64} {
		l = append(l, turned(func(d *api.Datom) { d.E = n }), turned(func(d *api.Datom) { d.A = n }), turned(func(d *api.Datom) { d.V.N = n }))
	}
	for _, n := range []int64{0, -1, math.MinInt64, api.MaxTx + 1, math.MaxInt64} {
		l = append(l, turned(func(d *api.Datom) { d.T = n }))
	}
	for _, s := range []api.Span{{}, {From: 1, To: 0}, {From: api.MaxTime, To: api.MinTime}, {From: api.MinTime, To: api.MinTime}, {From: api.MaxTime, To: api.MaxTime}, {From: 5, To: 5}} {
		l = append(l, turned(func(d *api.Datom) { d.From, d.To = s.From, s.To }))
	}
	for _, v := range []api.Value{{}, {Kind: 8, N: 7}, {Kind: -1}, {Kind: api.KRef, N: 7, S: "a"}, {Kind: api.KBool, N: 2}, {Kind: api.KText, N: 1}, text(strings.Repeat("a", api.MaxText+1)), {Kind: api.KWord}, {Kind: api.KWord, S: "A"}} {
		l = append(l, turned(func(d *api.Datom) { d.V = v }))
	}
	return l
}

func TestCheck(t *testing.T) {
	for _, d := range may() {
		if e := Check(d); e != api.OK {
			t.Errorf("Check(%v) = %v", d, e)
		}
	}
	for _, d := range mayNot() {
		if e := Check(d); e != api.ErrDatom {
			t.Errorf("Check(%v) = %v, want ErrDatom", d, e)
		}
	}
}

// model says how two datoms stand in an order, as the chapter's table has it.
func model(order int, a, b api.Datom) int {
	e, at, v := cmp.Compare(a.E, b.E), cmp.Compare(a.A, b.A), value.Compare(a.V, b.V)
	add := 0
	if a.Add != b.Add {
		add = 1
		if a.Add {
			add = -1
		}
	}
	last := cmp.Or(cmp.Compare(a.T, b.T), add, cmp.Compare(a.From, b.From), cmp.Compare(a.To, b.To))
	switch order {
	case api.EAVT:
		return cmp.Or(e, at, v, last)
	case api.AEVT:
		return cmp.Or(at, e, v, last)
	case api.AVET:
		return cmp.Or(at, v, e, last)
	case api.VAET:
		return cmp.Or(v, at, e, last)
	}
	return 0
}

// In each order each part decides over all behind it: a datom that has less of one, and more of all behind, stands ahead.
func TestCompareByEachPart(t *testing.T) {
	const e, a, v, tx, add, from, to = 0, 1, 2, 3, 4, 5, 6
	less := api.Datom{E: 1, A: 1, V: ref(1), T: 1, Add: true, From: 1, To: 11}
	more := api.Datom{E: 2, A: 2, V: ref(2), T: 2, Add: false, From: 2, To: 12}
	put := func(d *api.Datom, part int, of api.Datom) {
		switch part {
		case e:
			d.E = of.E
		case a:
			d.A = of.A
		case v:
			d.V = of.V
		case tx:
			d.T = of.T
		case add:
			d.Add = of.Add
		case from:
			d.From = of.From
		case to:
			d.To = of.To
		}
	}
	for order, parts := range map[int][]int{
		api.EAVT: {e, a, v, tx, add, from, to}, api.AEVT: {a, e, v, tx, add, from, to},
		api.AVET: {a, v, e, tx, add, from, to}, api.VAET: {v, a, e, tx, add, from, to},
	} {
		for i, deciding := range parts {
			ahead, behind := less, less
			put(&behind, deciding, more)
			for _, part := range parts[i+1:] {
				put(&ahead, part, more)
			}
			if c, d := Compare(order, ahead, behind), Compare(order, behind, ahead); c != -1 || d != 1 {
				t.Errorf("order %d, part %d: Compare = %d and %d, want -1 and 1", order, deciding, c, d)
			}
			if c := Compare(order, ahead, ahead); c != 0 {
				t.Errorf("order %d: Compare of the same = %d", order, c)
			}
		}
	}
}

// Any two datoms stand as the table says, those too that may not be, and those that the order has not.
func TestCompareOfAll(t *testing.T) {
	all := append(may(), mayNot()...)
	for _, order := range orders {
		for _, a := range all {
			for _, b := range all {
				c := Compare(order, a, b)
				if c != model(order, a, b) {
					t.Fatalf("Compare(%d, %v, %v) = %d", order, a, b, c)
				}
				if (c == 0) != (a == b) {
					t.Fatalf("Compare(%d, %v, %v) = %d, but they are the same: %v", order, a, b, c, a == b)
				}
			}
		}
	}
}

func TestCompareInNoOrder(t *testing.T) {
	less, more := api.Datom{}, example()
	for _, order := range noOrders {
		if c, d := Compare(order, less, more), Compare(order, more, less); c != 0 || d != 0 {
			t.Errorf("Compare in order %d = %d and %d, want 0", order, c, d)
		}
	}
}

// drawn are datoms out of a few parts, so that many stand close to one another, or are the same.
func drawn(r *rand.Rand, many int) []api.Datom {
	vs := []api.Value{{Kind: api.KInt, N: -1}, {Kind: api.KInt, N: 3}, {Kind: api.KBool}, text(""), text("\x00"), text("a"), text("a\x00"), ref(0), ref(1), ref(300), {Kind: api.KTime, N: 1}, {Kind: api.KWord, S: "w"}}
	var l []api.Datom
	for range many {
		from := int64(r.Intn(4)) - 2
		l = append(l, api.Datom{
			E: int64(r.Intn(3)), A: int64(r.Intn(3)), V: vs[r.Intn(len(vs))], T: 1 + int64(r.Intn(3)),
			Add: r.Intn(2) == 0, From: from, To: from + 1 + int64(r.Intn(2)),
		})
	}
	return l
}

func TestSorted(t *testing.T) {
	d := example()
	later, cut, plain := turned(func(d *api.Datom) { d.T = 2 }), turned(func(d *api.Datom) { d.Add = false }), turned(func(d *api.Datom) { d.V = text("a") })
	lower, bad := turned(func(d *api.Datom) { d.E, d.A = 4, 11 }), turned(func(d *api.Datom) { d.T = 0 })
	for _, x := range []struct {
		order   int
		l, want []api.Datom
	}{
		{api.EAVT, nil, nil}, {api.VAET, []api.Datom{}, nil},
		{api.EAVT, []api.Datom{d}, []api.Datom{d}},
		{api.EAVT, []api.Datom{d, d}, []api.Datom{d}}, {api.VAET, []api.Datom{d, later, d, d, later}, []api.Datom{d, later}},
		{api.EAVT, []api.Datom{cut, d}, []api.Datom{d, cut}}, {api.AVET, []api.Datom{later, cut, d}, []api.Datom{d, cut, later}},
		{api.EAVT, []api.Datom{d, plain, lower}, []api.Datom{lower, plain, d}},
		{api.AEVT, []api.Datom{lower, plain, d}, []api.Datom{plain, d, lower}},
		{api.AVET, []api.Datom{d, lower, plain}, []api.Datom{plain, d, lower}},
		{api.VAET, []api.Datom{lower, plain, d, plain}, []api.Datom{d, lower}}, {api.VAET, []api.Datom{plain}, nil},
		// Whether a datom may be is not asked: an order has it all the same.
		{api.EAVT, []api.Datom{d, bad}, []api.Datom{bad, d}}, {api.VAET, []api.Datom{d, bad}, []api.Datom{bad, d}}, {api.VAET, []api.Datom{{}, bad}, []api.Datom{bad}},
	} {
		if got := Sorted(x.order, x.l); !slices.Equal(got, x.want) {
			t.Errorf("Sorted(%d, %v) = %v, want %v", x.order, x.l, got, x.want)
		}
	}
	for _, order := range noOrders {
		if got := Sorted(order, []api.Datom{d, later}); len(got) != 0 {
			t.Errorf("Sorted in order %d = %v, want nothing", order, got)
		}
	}
}

func TestSortedOfMany(t *testing.T) {
	r := rand.New(rand.NewSource(1))
	l := drawn(r, 5000)
	l = append(append(l, may()...), mayNot()...)
	r.Shuffle(len(l), func(i, j int) { l[i], l[j] = l[j], l[i] })
	for _, order := range orders {
		var want []api.Datom
		seen := map[api.Datom]bool{}
		for _, d := range l {
			if !seen[d] && (order != api.VAET || d.V.Kind == api.KRef) {
				seen[d] = true
				want = append(want, d)
			}
		}
		slices.SortFunc(want, func(a, b api.Datom) int { return model(order, a, b) })
		if got := Sorted(order, l); !slices.Equal(got, want) {
			t.Errorf("Sorted in order %d: %d datoms, want %d, or in another order", order, len(got), len(want))
		}
	}
}

// What is handed in has room behind it: neither it nor that room is written to, and what is answered is apart from both.
func TestSortedIsNewMemory(t *testing.T) {
	d := example()
	for _, room := range [][]api.Datom{{d}, {d, turned(func(d *api.Datom) { d.E = 4 }), d}, {d, d, d, d}, {d, turned(func(d *api.Datom) { d.E = 6 })}} {
		room = append(slices.Clone(room), turned(func(d *api.Datom) { d.E = 1 }), d)
		kept := slices.Clone(room)
		l := room[:len(room)-2]
		for _, order := range orders {
			got, again := Sorted(order, l), Sorted(order, l)
			clear(got[:cap(got)])
			if !slices.Equal(room, kept) {
				t.Fatalf("Sorted(%d, %v), or writing to what it answered, turned what was handed in to %v", order, kept, room)
			}
			if third := Sorted(order, l); len(again) == 0 || !slices.Equal(again, third) {
				t.Fatalf("two answers of Sorted share memory: %v, %v", again, third)
			}
		}
	}
}
