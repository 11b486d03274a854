package index

import (
	"math"
	"math/rand"
	"slices"
	"strings"
	"testing"

	"daybook/api"
)

// chapter are the datoms a, b and c of the chapter's examples.
func chapter() (a, b, c api.Datom) {
	a = whole(20, 10, number(1), 1)
	b = api.Datom{E: 20, A: 10, V: number(1), T: 2, From: 0, To: 5}
	c = whole(21, 10, number(2), 1)
	return a, b, c
}

func TestChaptersExamples(t *testing.T) {
	a, b, c := chapter()
	x := added(t, nil, a, b, c)
	for _, k := range []struct {
		order int
		l     []api.Part
		v     api.View
		want  []api.Datom
		e     api.Errno
	}{
		{api.AVET, []api.Part{num(10), val(number(1))}, api.View{}, []api.Datom{a, b}, api.OK},
		{api.EAVT, []api.Part{num(20)}, api.View{AsOf: 1}, []api.Datom{a}, api.OK},
		{api.VAET, nil, api.View{}, nil, api.OK},
		{api.EAVT, []api.Part{val(number(1))}, api.View{}, nil, api.ErrArg},
	} {
		if got, e := x.Datoms(k.order, k.l, k.v); e != k.e || !slices.Equal(got, k.want) {
			t.Errorf("Datoms(%d, %v, %v) = %v, %v, want %v, %v", k.order, k.l, k.v, got, e, k.want, k.e)
		}
	}
	want := []api.Fact{{E: 20, A: 10, V: number(1), Spans: []api.Span{{From: api.MinTime, To: 0}, {From: 5, To: api.MaxTime}}}}
	if got, e := x.Facts(api.EAVT, []api.Part{num(20)}, api.View{}); e != api.OK || !slices.EqualFunc(got, want, sameFact) {
		t.Errorf("Facts(EAVT, 20) = %v, %v, want %v", got, e, want)
	}
	model{a, b, c}.holds(t, x)
}

// An index that is none, one that nobody made, and those to which nothing was added, are empty ones.
func TestEmpty(t *testing.T) {
	a, b, _ := chapter()
	d := whole(0, 0, ref(0), 1)
	var none *Index
	for _, x := range []*Index{none, {}, added(t, none), added(t, &Index{}), added(t, added(t, nil), []api.Datom{}...)} {
		model{}.holds(t, x, a, b, d)
		for _, order := range allOrders {
			model{}.holdsNext(t, x, order, d)
			for n := range 5 {
				model{}.holdsDatoms(t, x, order, first(order, d)[:n], api.View{})
			}
			for n := range 4 {
				model{}.holdsFacts(t, x, order, first(order, d)[:n], api.View{At: true})
			}
		}
		model{a, d}.holds(t, added(t, x, a, d), b)
		model{}.holds(t, x, a, b, d)
	}
}

// turned is a datom of a reference with something turned.
func turned(turn func(*api.Datom)) api.Datom {
	d := api.Datom{E: 5, A: 10, V: ref(7), T: 3, Add: true, From: 0, To: 10}
	turn(&d)
	return d
}

// mayNot are datoms that may not be, each for one thing alone.
func mayNot() []api.Datom {
	l := []api.Datom{{}}
	for _, n := range []int64{-1, math.MinInt64, api.MaxEntity, math.MaxInt64} {
		l = append(l, turned(func(d *api.Datom) { d.E = n }), turned(func(d *api.Datom) { d.A = n }), turned(func(d *api.Datom) { d.V.N = n }))
	}
	for _, n := range []int64{0, -1, api.MaxTx + 1, math.MaxInt64} {
		l = append(l, turned(func(d *api.Datom) { d.T = n }))
	}
	for _, s := range []api.Span{{}, {From: 1, To: 0}, {From: api.MaxTime, To: api.MinTime}, {From: api.MaxTime, To: api.MaxTime}} {
		l = append(l, turned(func(d *api.Datom) { d.From, d.To = s.From, s.To }))
	}
	for _, v := range []api.Value{{}, {Kind: 8, N: 7}, {Kind: api.KRef, N: 7, S: "a"}, {Kind: api.KBool, N: 2}, {Kind: api.KText, N: 1}, text(strings.Repeat("a", api.MaxText+1)), {Kind: api.KWord, S: "A"}} {
		l = append(l, turned(func(d *api.Datom) { d.V = v }))
	}
	return l
}

// may are datoms that may be, with the ends of entities, transactions, instants and values among them.
func may() []api.Datom {
	var l []api.Datom
	for _, n := range []int64{0, 255, 256, api.MaxEntity - 1} {
		l = append(l, turned(func(d *api.Datom) { d.E = n }), turned(func(d *api.Datom) { d.A = n }), turned(func(d *api.Datom) { d.V.N = n }))
	}
	for _, n := range []int64{1, 3, 256, api.MaxTx} {
		l = append(l, turned(func(d *api.Datom) { d.T = n }), turned(func(d *api.Datom) { d.T, d.Add = n, false }))
	}
	for _, s := range []api.Span{{From: api.MinTime, To: api.MaxTime}, {From: api.MinTime, To: api.MinTime + 1}, {From: api.MaxTime - 1, To: api.MaxTime}, {From: -1, To: 1}} {
		l = append(l, turned(func(d *api.Datom) { d.From, d.To = s.From, s.To }), turned(func(d *api.Datom) { d.From, d.To, d.Add = s.From, s.To, false }))
	}
	for _, v := range []api.Value{
		number(math.MinInt64), number(7), number(math.MaxInt64), {Kind: api.KBool}, {Kind: api.KBool, N: 1}, {Kind: api.KTime, N: 7},
		text(""), text("\x00"), text("a"), text("a\x00"), text(strings.Repeat("\x00", api.MaxText)), text(strings.Repeat("\xff", api.MaxText)),
		{Kind: api.KBytes}, {Kind: api.KBytes, S: strings.Repeat("\x00", api.MaxText)}, {Kind: api.KWord, S: strings.Repeat("a", api.MaxWord)},
	} {
		l = append(l, turned(func(d *api.Datom) { d.V = v }))
	}
	return l
}

// All datoms that may be go in, are told as they were, and are found from each other one.
func TestAllThatMayBe(t *testing.T) {
	m := model{}.with(may()...)
	x := added(t, nil, may()...)
	m.holds(t, x, mayNot()...)
	half := model{}
	for i, d := range m {
		if i%2 == 0 {
			half = half.with(d)
		}
	}
	y := added(t, nil, half...)
	half.holds(t, y, m...)
	for _, order := range allOrders {
		for _, d := range m {
			m.holdsNext(t, x, order, d)
			half.holdsNext(t, y, order, d)
			if first(order, d) != nil {
				for n := range 5 {
					m.holdsDatoms(t, x, order, first(order, d)[:n], api.View{})
					half.holdsDatoms(t, y, order, first(order, d)[:n], api.View{Since: 2, AsOf: 256})
				}
			}
		}
	}
}

func TestAddRefuses(t *testing.T) {
	good := may()[:3]
	m := model{}.with(good...)
	for _, x := range []*Index{nil, {}, added(t, nil, good...)} {
		elder := model(x.All())
		for _, bad := range mayNot() {
			for _, l := range [][]api.Datom{{bad}, {bad, bad}, append([]api.Datom{bad}, may()...), append(may(), bad), {good[0], bad, good[1]}} {
				if y, e := x.Add(l); y != nil || e != api.ErrIndex {
					t.Fatalf("Add of %v = %v, %v", bad, y, e)
				}
			}
			elder.holds(t, x, bad)
		}
		m.holds(t, added(t, x, good...))
	}
}

// Each field tells datoms apart.
func TestHas(t *testing.T) {
	d := turned(func(*api.Datom) {})
	x := added(t, nil, d)
	if !x.Has(d) {
		t.Errorf("Has(%v) = false", d)
	}
	for i, turn := range []func(*api.Datom){
		func(d *api.Datom) { d.E++ }, func(d *api.Datom) { d.A++ }, func(d *api.Datom) { d.V.N++ }, func(d *api.Datom) { d.V.Kind = api.KInt }, func(d *api.Datom) { d.T++ },
		func(d *api.Datom) { d.Add = false }, func(d *api.Datom) { d.From++ }, func(d *api.Datom) { d.To++ }, func(d *api.Datom) { d.V.S = "a" },
	} {
		c := turned(turn)
		if x.Has(c) {
			t.Errorf("Has(%v) = true", c)
		}
		if i < 8 {
			model{d, c}.holds(t, added(t, x, c))
		}
	}
}

// many are datoms of texts, all unlike, that stand in no order.
func many(n int) []api.Datom {
	var l []api.Datom
	for i := range n {
		l = append(l, api.Datom{E: int64(i * 7 % 1024), A: int64(i / 1024), V: text(string([]byte{byte(i), byte(i >> 8), byte(i >> 16)})), T: int64(i) + 1, Add: true, From: 0, To: 1})
	}
	return l
}

// holdsSome asks some of an index of many.
func holdsSome(t *testing.T, x *Index, l []api.Datom) {
	t.Helper()
	if x.Len() != len(l) || len(x.All()) != len(l) {
		t.Fatalf("Len: %d, and %d in All, want %d", x.Len(), len(x.All()), len(l))
	}
	for i := 0; i < len(l); i += 4999 {
		if !x.Has(l[i]) {
			t.Fatalf("Has(%v) = false", l[i])
		}
	}
	if got, _ := x.Datoms(api.AEVT, []api.Part{num(5)}, api.View{}); len(got) != 1024 {
		t.Fatalf("%d datoms of an attribute, want 1024", len(got))
	}
}

func TestMaxDatoms(t *testing.T) {
	if MaxDatoms != 1<<18 {
		t.Fatalf("MaxDatoms = %d", MaxDatoms)
	}
	l := many(MaxDatoms + 2)
	full := l[:MaxDatoms]
	if y, e := (*Index)(nil).Add(l[:MaxDatoms+1]); y != nil || e != api.ErrIndex {
		t.Errorf("Add of more than MaxDatoms = %v, %v", y, e)
	}
	// Those that come twice count once.
	x := added(t, nil, append(slices.Clone(full[1:]), full[1:9]...)...)
	holdsSome(t, x, full[1:])
	if y, e := x.Add([]api.Datom{l[0], full[3], l[MaxDatoms]}); y != nil || e != api.ErrIndex {
		t.Errorf("Add of two, where there is room for one = %v, %v", y, e)
	}
	y := added(t, x, full[5], l[0], full[7], l[0])
	holdsSome(t, y, full)
	for _, more := range [][]api.Datom{{l[MaxDatoms]}, {full[0], l[MaxDatoms+1], full[1]}} {
		if z, e := y.Add(more); z != nil || e != api.ErrIndex {
			t.Errorf("Add to a full index = %v, %v", z, e)
		}
	}
	holdsSome(t, added(t, y, full[:100]...), full)
	holdsSome(t, added(t, y), full)
	holdsSome(t, x, full[1:])
}

func TestNextRefuses(t *testing.T) {
	x := added(t, nil, may()...)
	for _, order := range []int{0, -1, 5, 8, 256 + api.EAVT, math.MinInt, math.MaxInt} {
		for _, d := range may() {
			if got, ok := x.Next(order, d); ok || got != (api.Datom{}) {
				t.Errorf("Next(%d, %v) = %v, %v", order, d, got, ok)
			}
		}
	}
	for _, order := range allOrders {
		for _, d := range mayNot() {
			if got, ok := x.Next(order, d); ok || got != (api.Datom{}) {
				t.Errorf("Next(%d, %v) = %v, %v", order, d, got, ok)
			}
		}
	}
	if got, ok := x.Next(api.VAET, whole(0, 0, number(0), 1)); ok || got != (api.Datom{}) {
		t.Errorf("Next of VAET of no reference = %v, %v", got, ok)
	}
}

// Next, again and again from the instant behind what it told, tells all of an order.
func TestNextGoesOn(t *testing.T) {
	m := model{}.with(drawnDatoms(rand.New(rand.NewSource(1)), 80)...)
	x := added(t, nil, m...)
	for _, order := range allOrders {
		var told []api.Datom
		d, ok := x.Next(order, api.Datom{V: m.sorted(order)[0].V, T: 1, Add: true, From: api.MinTime, To: api.MaxTime})
		for ok {
			told = append(told, d)
			d.To++
			d, ok = x.Next(order, d)
		}
		if want := m.sorted(order); !slices.Equal(told, want) {
			t.Errorf("Next in %d told %v, want %v", order, told, want)
		}
	}
}
