package index

import (
	"cmp"
	"math/rand"
	"slices"
	"testing"

	"daybook/api"
	"daybook/facts"
	"daybook/value"
)

var allOrders = []int{api.EAVT, api.AEVT, api.AVET, api.VAET}

func number(n int64) api.Value { return api.Value{Kind: api.KInt, N: n} }

func ref(n int64) api.Value { return api.Value{Kind: api.KRef, N: n} }

func text(s string) api.Value { return api.Value{Kind: api.KText, S: s} }

func num(n int64) api.Part { return api.Part{N: n} }

func val(v api.Value) api.Part { return api.Part{Value: true, V: v} }

// whole is a datom that is added, for all instants.
func whole(e, a int64, v api.Value, t int64) api.Datom {
	return api.Datom{E: e, A: a, V: v, T: t, Add: true, From: api.MinTime, To: api.MaxTime}
}

// model is what an index has; each question goes through all of it, by the chapter's words.
type model []api.Datom

// with is a model with datoms more, each once.
func (m model) with(l ...api.Datom) model {
	n := slices.Clone(m)
	for _, d := range l {
		if !slices.Contains(n, d) {
			n = append(n, d)
		}
	}
	return n
}

// first are the first four parts of a datom in an order, and none if the order has it not.
func first(order int, d api.Datom) []api.Part {
	e, a, v, t := num(d.E), num(d.A), val(d.V), num(d.T)
	switch order {
	case api.EAVT:
		return []api.Part{e, a, v, t}
	case api.AEVT:
		return []api.Part{a, e, v, t}
	case api.AVET:
		return []api.Part{a, v, e, t}
	}
	if d.V.Kind != api.KRef {
		return nil
	}
	return []api.Part{v, a, e, t}
}

// stand says how two datoms stand in an order, that has both.
func stand(order int, c, d api.Datom) int {
	q := first(order, d)
	for i, p := range first(order, c) {
		if n := cmp.Or(cmp.Compare(p.N, q[i].N), value.Compare(p.V, q[i].V)); n != 0 {
			return n
		}
	}
	if c.Add != d.Add {
		if c.Add {
			return -1
		}
		return 1
	}
	return cmp.Or(cmp.Compare(c.From, d.From), cmp.Compare(c.To, d.To))
}

// sorted are those that an order has, in it.
func (m model) sorted(order int) []api.Datom {
	var l []api.Datom
	for _, d := range m {
		if first(order, d) != nil {
			l = append(l, d)
		}
	}
	slices.SortFunc(l, func(c, d api.Datom) int { return stand(order, c, d) })
	return l
}

func (m model) datoms(order int, l []api.Part, v api.View) []api.Datom {
	var seen []api.Datom
	for _, d := range m.sorted(order) {
		if slices.Equal(first(order, d)[:len(l)], l) && v.Since < d.T && (v.AsOf == 0 || d.T <= v.AsOf) {
			seen = append(seen, d)
		}
	}
	return seen
}

// facts are what of the fold of all, of a view, begins with some parts. Their datoms must go together.
func (m model) facts(t *testing.T, order int, l []api.Part, v api.View) []api.Fact {
	t.Helper()
	all, e := facts.Of(m, v)
	if e != api.OK {
		t.Fatalf("datoms that do not go together: %v", e)
	}
	var held []api.Fact
	for _, f := range all {
		if p := first(order, like(f)); p != nil && slices.Equal(p[:len(l)], l) {
			held = append(held, f)
		}
	}
	slices.SortFunc(held, func(f, g api.Fact) int { return stand(order, like(f), like(g)) })
	return held
}

// like is a datom of a fact's E, A and V.
func like(f api.Fact) api.Datom { return api.Datom{E: f.E, A: f.A, V: f.V} }

func (m model) next(order int, d api.Datom) (api.Datom, bool) {
	for _, c := range m.sorted(order) {
		if stand(order, c, d) >= 0 {
			return c, true
		}
	}
	return api.Datom{}, false
}

func sameFact(f, g api.Fact) bool {
	return f.E == g.E && f.A == g.A && f.V == g.V && slices.Equal(f.Spans, g.Spans)
}

// holds asks all of an index: how many it has, all of them, and each order of them; and whether it has some.
func (m model) holds(t *testing.T, x *Index, asked ...api.Datom) {
	t.Helper()
	if x.Len() != len(m) {
		t.Fatalf("Len: %d, want %d", x.Len(), len(m))
	}
	if got, want := x.All(), m.sorted(api.EAVT); !slices.Equal(got, want) {
		t.Fatalf("All: %v, want %v", got, want)
	}
	for _, order := range allOrders {
		m.holdsDatoms(t, x, order, nil, api.View{})
	}
	for _, d := range slices.Concat(asked, m) {
		if got, want := x.Has(d), slices.Contains(m, d); got != want {
			t.Fatalf("Has(%v) = %v", d, got)
		}
	}
}

func (m model) holdsDatoms(t *testing.T, x *Index, order int, l []api.Part, v api.View) {
	t.Helper()
	want := m.datoms(order, l, v)
	if got, e := x.Datoms(order, l, v); e != api.OK || !slices.Equal(got, want) {
		t.Fatalf("Datoms(%d, %v, %v) = %v, %v, want %v", order, l, v, got, e, want)
	}
}

func (m model) holdsFacts(t *testing.T, x *Index, order int, l []api.Part, v api.View) {
	t.Helper()
	want := m.facts(t, order, l, v)
	if got, e := x.Facts(order, l, v); e != api.OK || !slices.EqualFunc(got, want, sameFact) {
		t.Fatalf("Facts(%d, %v, %v) = %v, %v, want %v", order, l, v, got, e, want)
	}
}

func (m model) holdsNext(t *testing.T, x *Index, order int, d api.Datom) {
	t.Helper()
	var want api.Datom
	there := false
	if first(order, d) != nil {
		want, there = m.next(order, d)
	}
	if got, ok := x.Next(order, d); ok != there || got != want {
		t.Fatalf("Next(%d, %v) = %v, %v, want %v, %v", order, d, got, ok, want, there)
	}
}

// drawnValue is one of few, of all kinds, of which some begin others.
func drawnValue(r *rand.Rand) api.Value {
	n := r.Int63n(3)
	switch r.Intn(8) {
	case 0:
		return number(n - 1)
	case 1:
		return api.Value{Kind: api.KBool, N: n % 2}
	case 2:
		return text([]string{"", "a", "a\x00"}[n])
	case 3:
		return api.Value{Kind: api.KBytes, S: []string{"", "\xff", "\xff\xff"}[n]}
	case 4:
		return api.Value{Kind: api.KTime, N: n - 1}
	case 5:
		return api.Value{Kind: api.KWord, S: []string{"a", "a/b", "ab"}[n]}
	}
	return ref(n)
}

// drawnDatom is one of few entities, attributes, values and transactions. Those of a transaction go together: in each stretch of ten instants all are added, or all are cut, as the stretch and the transaction say.
func drawnDatom(r *rand.Rand) api.Datom {
	d := api.Datom{E: r.Int63n(4), A: 8 + r.Int63n(3), V: drawnValue(r), T: 1 + r.Int63n(5)}
	stretch := r.Int63n(3)
	d.Add = (stretch+d.T)%3 != 0
	d.From = 10*stretch + r.Int63n(5)
	d.To = d.From + 1 + r.Int63n(5)
	return d
}

func drawnDatoms(r *rand.Rand, n int) []api.Datom {
	var l []api.Datom
	for range n {
		l = append(l, drawnDatom(r))
	}
	return l
}

// views are of each transaction that is drawn, and some behind them, and at instants.
func views() []api.View {
	var l []api.View
	for _, asOf := range []int64{0, 1, 3, 5, 6, api.MaxTx} {
		for _, since := range []int64{0, 1, 2, 4, 5, api.MaxTx} {
			l = append(l, api.View{AsOf: asOf, Since: since})
		}
		for _, at := range []int64{api.MinTime, -1, 0, 4, 12, 13, 22, api.MaxTime} {
			l = append(l, api.View{AsOf: asOf, At: true, Valid: at}, api.View{AsOf: asOf, Since: 2, At: true, Valid: at}, api.View{AsOf: asOf, Valid: at})
		}
	}
	return l
}

// added asks that an Add goes.
func added(t *testing.T, x *Index, l ...api.Datom) *Index {
	t.Helper()
	y, e := x.Add(l)
	if e != api.OK || y == nil {
		t.Fatalf("Add of %d datoms: %v, %v", len(l), y, e)
	}
	return y
}
