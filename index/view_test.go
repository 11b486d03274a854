package index

import (
	"math"
	"slices"
	"strings"
	"testing"

	"daybook/api"
)

// refused are orders, parts and views that Datoms refuses, each with its error, and thus Facts too.
func refused() []look {
	wrong, bad := api.Value{Kind: 9}, api.View{AsOf: -1}
	l := []look{
		{api.EAVT, []api.Part{val(number(1))}, api.View{}, api.ErrArg},
		{api.EAVT, []api.Part{num(1), num(2), num(3)}, api.View{}, api.ErrArg},
		{api.EAVT, []api.Part{num(1), val(number(1))}, api.View{}, api.ErrArg},
		{api.AVET, []api.Part{num(1), num(2)}, api.View{}, api.ErrArg},
		{api.VAET, []api.Part{num(1)}, api.View{}, api.ErrArg},
		{api.EAVT, []api.Part{num(1), num(2), val(number(1)), val(number(1))}, api.View{}, api.ErrArg},
		{api.EAVT, []api.Part{num(1), num(2), val(number(1)), num(1), num(0)}, api.View{}, api.ErrArg},
		{api.EAVT, []api.Part{num(1), num(2), val(wrong), num(1), num(0)}, api.View{}, api.ErrArg},
		{api.EAVT, []api.Part{val(wrong)}, api.View{}, api.ErrArg},
		// A value that may not be is told ahead of a view that may not be, and, by Facts, ahead of a part too many and of History.
		{api.VAET, []api.Part{val(wrong)}, api.View{}, api.ErrKind},
		{api.VAET, []api.Part{val(ref(-1))}, bad, api.ErrKind},
		{api.AVET, []api.Part{num(1), val(text(strings.Repeat("a", api.MaxText+1)))}, api.View{History: true}, api.ErrKind},
		{api.EAVT, []api.Part{num(1), num(2), val(wrong), num(1)}, bad, api.ErrKind},
		{api.AEVT, []api.Part{num(1), num(2), val(wrong), num(1)}, api.View{History: true}, api.ErrKind},
	}
	for _, order := range []int{0, -1, 5, 8, 256 + api.EAVT, math.MinInt, math.MaxInt} {
		l = append(l, look{order, nil, api.View{}, api.ErrArg}, look{order, []api.Part{val(wrong)}, bad, api.ErrArg})
	}
	for _, order := range allOrders {
		for _, n := range []int64{-1, math.MinInt64, api.MaxTx + 1, math.MaxInt64} {
			l = append(l, look{order, nil, api.View{AsOf: n}, api.ErrArg}, look{order, nil, api.View{Since: n}, api.ErrArg}, look{order, nil, api.View{AsOf: 1, Since: n, At: true, History: true}, api.ErrArg})
		}
	}
	return l
}

// look is what Datoms and Facts are asked, and an error.
type look struct {
	order int
	l     []api.Part
	v     api.View
	e     api.Errno
}

func TestDatomsAndFactsRefuse(t *testing.T) {
	a, b, c := chapter()
	for _, x := range []*Index{nil, {}, added(t, nil, a, b, c, whole(1, 2, ref(3), 1))} {
		for _, k := range refused() {
			if got, e := x.Datoms(k.order, k.l, k.v); len(got) > 0 || e != k.e {
				t.Errorf("Datoms(%d, %v, %v) = %v, %v, want %v", k.order, k.l, k.v, got, e, k.e)
			}
			if got, e := x.Facts(k.order, k.l, k.v); len(got) > 0 || e != k.e {
				t.Errorf("Facts(%d, %v, %v) = %v, %v, want %v", k.order, k.l, k.v, got, e, k.e)
			}
		}
	}
}

// What Datoms takes, Facts refuses, if there are more than three parts, or History is asked for.
func TestFactsRefuses(t *testing.T) {
	d := whole(20, 10, ref(1), 1)
	clash := d
	clash.Add = false
	for _, x := range []*Index{nil, added(t, nil, d), added(t, nil, d, clash)} {
		m := model(x.All())
		for _, order := range allOrders {
			m.holdsDatoms(t, x, order, first(order, d), api.View{})
			m.holdsDatoms(t, x, order, nil, api.View{History: true, At: true, Valid: 5})
			for _, k := range []look{{order, first(order, d), api.View{}, api.ErrArg}, {order, nil, api.View{History: true}, api.ErrArg}, {order, first(order, d)[:3], api.View{History: true, At: true}, api.ErrArg}} {
				if got, e := x.Facts(k.order, k.l, k.v); len(got) > 0 || e != k.e {
					t.Errorf("Facts(%d, %v, %v) = %v, %v, want %v", k.order, k.l, k.v, got, e, k.e)
				}
			}
		}
	}
}

// Datoms that do not go together make an error where they are among those that are looked at, and there alone.
func TestFactsOfDatomsThatDoNotGoTogether(t *testing.T) {
	one, two := whole(20, 10, ref(1), 3), whole(21, 11, ref(2), 3)
	clash := api.Datom{E: 20, A: 10, V: ref(1), T: 3, From: 5, To: 6}
	x := added(t, nil, one, two, clash)
	for _, order := range allOrders {
		for n := range 4 {
			for _, v := range []api.View{{}, {AsOf: 3}, {Since: 2}, {At: true, Valid: 5}, {At: true, Valid: 100}} {
				if got, e := x.Facts(order, first(order, one)[:n], v); len(got) > 0 || e != api.ErrFacts {
					t.Errorf("Facts(%d, %v, %v) = %v, %v, want ErrFacts", order, first(order, one)[:n], v, got, e)
				}
				if n > 0 {
					model{two}.holdsFacts(t, x, order, first(order, two)[:n], v)
				}
			}
			for _, v := range []api.View{{AsOf: 2}, {Since: 3}} {
				model{}.holdsFacts(t, x, order, first(order, one)[:n], v)
			}
		}
	}
	if got, e := x.Datoms(api.EAVT, nil, api.View{}); e != api.OK || !slices.Equal(got, []api.Datom{one, clash, two}) {
		t.Errorf("Datoms = %v, %v", got, e)
	}
}

// VAET has the facts alone whose value is a reference.
func TestFactsInAnOrder(t *testing.T) {
	l := []api.Datom{whole(1, 12, number(9), 1), whole(2, 11, ref(4), 1), whole(3, 10, ref(5), 1), whole(4, 10, ref(4), 1), whole(5, 10, text("a"), 1)}
	x := added(t, nil, l...)
	for _, k := range []struct {
		order int
		want  []int64
	}{{api.EAVT, []int64{1, 2, 3, 4, 5}}, {api.AEVT, []int64{3, 4, 5, 2, 1}}, {api.AVET, []int64{5, 4, 3, 2, 1}}, {api.VAET, []int64{4, 2, 3}}} {
		got, e := x.Facts(k.order, nil, api.View{})
		var entities []int64
		for _, f := range got {
			entities = append(entities, f.E)
		}
		if e != api.OK || !slices.Equal(entities, k.want) {
			t.Errorf("Facts(%d) are of %v, %v, want %v", k.order, entities, e, k.want)
		}
	}
}

// A fact that holds at an instant is told with all its instants; what is not looked at makes no difference.
func TestFactsAt(t *testing.T) {
	a, b, c := chapter()
	x := added(t, nil, a, b, c)
	for _, k := range []struct {
		v    api.View
		want int
	}{{api.View{}, 2}, {api.View{Valid: 3}, 2}, {api.View{At: true, Valid: 3}, 1}, {api.View{At: true, Valid: 5}, 2}, {api.View{At: true, Valid: -1}, 2}, {api.View{At: true, Valid: 3, AsOf: 1}, 2}, {api.View{At: true, Valid: 7, Since: 1}, 0}} {
		got, e := x.Facts(api.AEVT, []api.Part{num(10)}, k.v)
		if e != api.OK || len(got) != k.want {
			t.Errorf("Facts(AEVT, 10, %v) = %v, %v, want %d", k.v, got, e, k.want)
		}
		model{a, b, c}.holdsFacts(t, x, api.AEVT, []api.Part{num(10)}, k.v)
	}
}

// Of a part that is a number N alone is looked at, of a value V.
func TestPartsFieldsThatDoNotCount(t *testing.T) {
	a, b, c := chapter()
	x := added(t, nil, a, b, c)
	l := []api.Part{{N: 10, V: number(8)}, {Value: true, N: 77, V: number(1)}}
	if got, e := x.Datoms(api.AVET, l, api.View{}); e != api.OK || !slices.Equal(got, []api.Datom{a, b}) {
		t.Errorf("Datoms = %v, %v", got, e)
	}
	if got, e := x.Facts(api.AVET, l, api.View{}); e != api.OK || len(got) != 1 || got[0].E != 20 {
		t.Errorf("Facts = %v, %v", got, e)
	}
}

// Numbers of a prefix that no datom has may be any.
func TestPrefixesThatNothingBeginsWith(t *testing.T) {
	m := model{}.with(may()...)
	x := added(t, nil, may()...)
	for _, n := range []int64{math.MinInt64, -1, 1, 254, api.MaxEntity, math.MaxInt64} {
		for _, l := range [][]api.Part{{num(n)}, {num(5), num(n)}, {num(n), num(10)}} {
			m.holdsDatoms(t, x, api.EAVT, l, api.View{})
			m.holdsDatoms(t, x, api.AEVT, l, api.View{})
		}
		for _, order := range allOrders {
			l := first(order, m[0])
			l[3] = num(n)
			m.holdsDatoms(t, x, order, l, api.View{})
		}
	}
}
