package index

import (
	"math/rand"
	"slices"
	"sync"
	"testing"

	"daybook/api"
)

// Datoms, Facts and Next answer as the model, of drawn datoms, of all prefixes that these have, and of others, in all views.
func TestDrawnLooks(t *testing.T) {
	r := rand.New(rand.NewSource(2))
	all := views()
	for _, n := range []int{1, 3, 10, 40, 120} {
		for range 8 {
			l := drawnDatoms(r, n)
			m, x := model{}.with(l...), added(t, nil, l...)
			m.holds(t, x, drawnDatoms(r, 20)...)
			for _, d := range append(drawnDatoms(r, 10), l[:min(n, 20)]...) {
				for _, order := range allOrders {
					m.holdsNext(t, x, order, d)
					p := first(order, d)
					if p == nil {
						continue
					}
					m.holdsDatoms(t, x, order, p, all[r.Intn(len(all))])
					for n := range 4 {
						m.holdsDatoms(t, x, order, p[:n], all[r.Intn(len(all))])
						m.holdsFacts(t, x, order, p[:n], all[r.Intn(len(all))])
					}
				}
			}
		}
	}
}

func TestAllViews(t *testing.T) {
	r := rand.New(rand.NewSource(3))
	l := drawnDatoms(r, 60)
	m, x := model{}.with(l...), added(t, nil, l...)
	for _, v := range views() {
		for _, order := range allOrders {
			m.holdsDatoms(t, x, order, nil, v)
			m.holdsFacts(t, x, order, nil, v)
			history := v
			history.History = true
			m.holdsDatoms(t, x, order, nil, history)
		}
	}
}

// In whatever order, and in however many Adds, datoms come, the index is the same; elder ones stay.
func TestOrderOfAddsMakesNoDifference(t *testing.T) {
	r := rand.New(rand.NewSource(4))
	for _, n := range []int{0, 1, 2, 9, 50} {
		l := drawnDatoms(r, n)
		m := model{}.with(l...)
		for range 10 {
			r.Shuffle(len(l), func(i, j int) { l[i], l[j] = l[j], l[i] })
			var x *Index
			elder := []*Index{x}
			ends := []int{0}
			for at := 0; at < len(l); {
				next := min(len(l), at+r.Intn(8))
				// Some come again.
				x = added(t, x, append(slices.Clone(l[at:next]), l[:r.Intn(next+1)]...)...)
				at = next
				elder, ends = append(elder, x), append(ends, at)
			}
			m.holds(t, x, drawnDatoms(r, 10)...)
			for i, y := range elder {
				model{}.with(l[:ends[i]]...).holds(t, y, l...)
			}
		}
	}
}

// Two indexes that are made of one have nothing of each other.
func TestBranches(t *testing.T) {
	r := rand.New(rand.NewSource(5))
	base, left, right := drawnDatoms(r, 30), drawnDatoms(r, 20), drawnDatoms(r, 20)
	x := added(t, nil, base...)
	y, z := added(t, x, left...), added(t, x, right...)
	m := model{}.with(base...)
	m.with(left...).holds(t, y, right...)
	m.with(right...).holds(t, z, left...)
	m.holds(t, x, slices.Concat(left, right)...)
	m.with(left...).with(right...).holds(t, added(t, y, z.All()...))
}

// What is handed in is only read, and not kept.
func TestHandedIn(t *testing.T) {
	r := rand.New(rand.NewSource(6))
	l := drawnDatoms(r, 40)
	was := slices.Clone(l)
	x := added(t, nil, l...)
	if !slices.Equal(l, was) {
		t.Fatal("Add wrote to its datoms")
	}
	clear(l)
	model{}.with(was...).holds(t, x)
	parts := make([]api.Part, 4, 9)
	copy(parts, first(api.EAVT, was[0]))
	for i := range 4 {
		x.Datoms(api.EAVT, parts[:i], api.View{})
		x.Facts(api.EAVT, parts[:i], api.View{})
	}
	if !slices.Equal(parts, first(api.EAVT, was[0])) {
		t.Error("Datoms or Facts wrote to the parts")
	}
}

// What is answered is new memory.
func TestAnswersAreNew(t *testing.T) {
	r := rand.New(rand.NewSource(7))
	l := drawnDatoms(r, 40)
	m, x := model{}.with(l...), added(t, nil, l...)
	for _, order := range allOrders {
		got, _ := x.Datoms(order, nil, api.View{})
		clear(got[:cap(got)])
		held, _ := x.Facts(order, nil, api.View{})
		for i := range held {
			spans := held[i].Spans
			clear(spans[:cap(spans)])
			for _, f := range held[i+1:] {
				if len(f.Spans) == 0 || f.Spans[0] == (api.Span{}) {
					t.Fatal("facts of one answer share their spans")
				}
			}
		}
		clear(held[:cap(held)])
		m.holdsFacts(t, x, order, nil, api.View{})
	}
	clear(x.All())
	m.holds(t, x)
}

// One index may be asked, and added to, by many at once.
func TestManyAtOnce(t *testing.T) {
	l := drawnDatoms(rand.New(rand.NewSource(8)), 60)
	m, x := model{}.with(l...), added(t, nil, l...)
	var all sync.WaitGroup
	for i := range 8 {
		all.Add(1)
		go func() {
			defer all.Done()
			y := x
			for _, d := range l {
				d.T += int64(i) + 10
				y, _ = y.Add([]api.Datom{d})
				y.Next(api.AVET, d)
			}
			y.Facts(api.VAET, nil, api.View{})
		}()
	}
	all.Wait()
	m.holds(t, x)
}

// The datoms of a range are told no longer than somebody asks for them.
func TestToldIsLeft(t *testing.T) {
	m := model{}.with(drawnDatoms(rand.New(rand.NewSource(9)), 30)...)
	x := added(t, nil, m...)
	for most := range 6 {
		var l []api.Datom
		for d := range x.told(api.AEVT, nil) {
			if len(l) == most {
				break
			}
			l = append(l, d)
		}
		if want := m.sorted(api.AEVT)[:most]; !slices.Equal(l, want) {
			t.Errorf("the first %d: %v, want %v", most, l, want)
		}
	}
}
