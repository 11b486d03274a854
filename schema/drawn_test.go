package schema

import (
	"math/rand"
	"slices"
	"testing"

	"daybook/api"
	"daybook/facts"
	"daybook/span"
)

// drawnSpans are those of a fact; mostly the whole time, if it is of a built-in attribute.
func drawnSpans(r *rand.Rand, a int64) []int64 {
	if a < api.First && r.Intn(20) > 0 {
		return nil
	}
	l := []int64{never, -1, 0, 1, 2, 3, 4, 5, 6, ever}
	r.Shuffle(len(l), func(i, j int) { l[i], l[j] = l[j], l[i] })
	l = l[:2+2*r.Intn(2)]
	slices.Sort(l)
	return l
}

// drawnValue is one of a kind, of few.
func drawnValue(r *rand.Rand, kind int) api.Value {
	v := api.Value{Kind: kind}
	switch kind {
	case api.KBool, api.KInt, api.KTime:
		v.N = int64(r.Intn(2))
	case api.KRef:
		v.N = int64(r.Intn(14))
	case api.KWord:
		v.S = []string{"a", "b", "c", "db/doc"}[r.Intn(4)]
	default:
		v.S = []string{"", "a"}[r.Intn(2)]
	}
	return v
}

// drawnAttr are the facts of an attribute; now and then they make none.
func drawnAttr(r *rand.Rand, id int64) []api.Fact {
	name := string(rune('a' + id - api.First))
	if r.Intn(40) == 0 {
		name = "a"
	}
	kind := int64(1 + r.Intn(7))
	if r.Intn(40) == 0 {
		kind = int64(r.Intn(10)) - 1
	}
	l := []api.Fact{fact(id, api.AName, word(name), drawnSpans(r, api.AName)...), fact(id, api.AType, number(kind))}
	if r.Intn(2) == 0 {
		l = append(l, fact(id, api.AMany, truth(int64(r.Intn(2)))))
	}
	if r.Intn(2) == 0 {
		l = append(l, fact(id, api.AUnique, number(int64(r.Intn(3)))))
	}
	if r.Intn(30) == 0 || kind == api.KRef {
		l = append(l, fact(id, api.APart, truth(int64(r.Intn(2)))))
	}
	return append(l, fact(id, api.AIndex, truth(int64(r.Intn(2)))))
}

// drawnFacts are some attributes' and some of these, most of them of the right type, and now and then any others.
func drawnFacts(r *rand.Rand) []api.Fact {
	var l []api.Fact
	for id := int64(api.First); id < api.First+3; id++ {
		l = append(l, drawnAttr(r, id)...)
	}
	attrs := modelAttrs(l)
	for range r.Intn(8) {
		a := attrs[r.Intn(len(attrs))]
		if a.ID < api.First && a.ID != api.ADoc && r.Intn(4) > 0 {
			continue
		}
		e, kind := int64(20+r.Intn(3)), a.Type
		switch r.Intn(60) {
		case 0:
			kind = 1 + r.Intn(7)
		case 1:
			e = int64(r.Intn(24))
		case 2:
			a.ID = int64(r.Intn(24))
		}
		l = append(l, fact(e, a.ID, drawnValue(r, kind), drawnSpans(r, a.ID)...))
	}
	if r.Intn(100) == 0 {
		return append(inOrder(l), fact(0, 0, number(0)))
	}
	return slices.CompactFunc(inOrder(l), func(f, g api.Fact) bool { return f.E == g.E && f.A == g.A && f.V == g.V })
}

// mostDrawn is above all entities that are drawn.
const mostDrawn = 30

// modelAttrs are facts' attributes, by the chapter's words, entity by entity.
func modelAttrs(l []api.Fact) []api.Attr {
	attrs := builtin()
	for e := int64(api.First); e < mostDrawn; e++ {
		of := func(a int64) []api.Value {
			var values []api.Value
			for _, f := range l {
				if f.E == e && f.A == a {
					values = append(values, f.V)
				}
			}
			return values
		}
		names, types := of(api.AName), of(api.AType)
		if len(names) != 1 || names[0].Kind != api.KWord || len(types) != 1 || types[0].Kind != api.KInt || types[0].N < 1 || types[0].N > 7 {
			continue
		}
		a := api.Attr{ID: e, Name: names[0].S, Type: int(types[0].N)}
		a.Many, a.Part, a.Index = slices.Contains(of(api.AMany), truth(1)), slices.Contains(of(api.APart), truth(1)), slices.Contains(of(api.AIndex), truth(1))
		for n := 1; n <= 2; n++ {
			if slices.Contains(of(api.AUnique), number(int64(n))) {
				a.Unique = n
			}
		}
		attrs = append(attrs, a)
	}
	return attrs
}

// modelHolds is facts' error, by the chapter's words, each fact held against each.
func modelHolds(l []api.Fact) api.Errno {
	attrs := modelAttrs(l)
	find := func(id int64) (api.Attr, bool) {
		for _, a := range attrs {
			if a.ID == id {
				return a, true
			}
		}
		return api.Attr{}, false
	}
	some := func(wrong func(api.Fact, api.Attr) bool) bool {
		return slices.ContainsFunc(l, func(f api.Fact) bool {
			a, _ := find(f.A)
			return wrong(f, a)
		})
	}
	meets := func(f, g api.Fact) bool {
		both, _ := span.And(f.Spans, g.Spans)
		return len(both) > 0
	}
	switch {
	case facts.Check(l) != api.OK:
		return api.ErrFacts
	case slices.ContainsFunc(attrs, func(a api.Attr) bool {
		return slices.ContainsFunc(attrs, func(b api.Attr) bool { return a.ID != b.ID && a.Name == b.Name })
	}):
		return api.ErrSchema
	case some(func(_ api.Fact, a api.Attr) bool { return a.ID == 0 }):
		return api.ErrAttr
	case some(func(f api.Fact, a api.Attr) bool {
		_, is := find(f.E)
		return f.V.Kind != a.Type || f.E >= 10 && f.A <= 2 && !is || f.A == 2 && (f.V.N < 1 || f.V.N > 7) || f.A == 4 && (f.V.N < 0 || f.V.N > 2)
	}):
		return api.ErrType
	case some(func(f api.Fact, a api.Attr) bool {
		return !a.Many && slices.ContainsFunc(l, func(g api.Fact) bool { return f.E == g.E && f.A == g.A && f.V != g.V && meets(f, g) })
	}):
		return api.ErrTwo
	case some(func(f api.Fact, a api.Attr) bool {
		return a.Unique > 0 && slices.ContainsFunc(l, func(g api.Fact) bool { return f.E != g.E && f.A == g.A && f.V == g.V && meets(f, g) })
	}):
		return api.ErrUnique
	case some(func(f api.Fact, _ api.Attr) bool {
		return f.A <= 7 && !slices.Equal(f.Spans, []api.Span{{From: never, To: ever}})
	}):
		return api.ErrWhole
	case slices.ContainsFunc(attrs, func(a api.Attr) bool { return a.Part && a.Type != 5 }):
		return api.ErrPart
	}
	return api.OK
}

func TestHoldsDrawn(t *testing.T) {
	r := rand.New(rand.NewSource(1))
	told := map[api.Errno]int{}
	for range 20000 {
		l := drawnFacts(r)
		want := modelHolds(l)
		told[want]++
		if e := Holds(l); e != want {
			t.Fatalf("Holds(%v) = %v, want %v", l, e, want)
		}
		wantAttrs, wantErr := modelAttrs(l), api.OK
		if want == api.ErrFacts || want == api.ErrSchema {
			wantAttrs, wantErr = nil, want
		}
		if got, e := Of(l); e != wantErr || !slices.Equal(got, wantAttrs) {
			t.Fatalf("Of(%v) = %v, %v, want %v, %v", l, got, e, wantAttrs, wantErr)
		}
	}
	for _, e := range []api.Errno{api.OK, api.ErrFacts, api.ErrSchema, api.ErrAttr, api.ErrType, api.ErrTwo, api.ErrUnique, api.ErrWhole, api.ErrPart} {
		if told[e] < 100 {
			t.Errorf("error %d was drawn %d times", e, told[e])
		}
	}
}

// Facts that hold go on doing so without some, and at some instants alone.
func TestHoldsWithLess(t *testing.T) {
	r := rand.New(rand.NewSource(2))
	asked, less := 0, 0
	for range 20000 {
		l := drawnFacts(r)
		if Holds(l) != api.OK {
			continue
		}
		asked++
		without := slices.DeleteFunc(slices.Clone(l), func(f api.Fact) bool { return f.A >= api.First && r.Intn(2) == 0 })
		at := fact(0, 0, api.Value{}, drawnSpans(r, api.First)...).Spans
		var cut []api.Fact
		for _, f := range l {
			if f.A >= api.First {
				f.Spans, _ = span.And(f.Spans, at)
			}
			if len(f.Spans) > 0 {
				cut = append(cut, f)
			}
		}
		less += len(l) - len(without)
		if e := Holds(without); e != api.OK {
			t.Fatalf("%v hold, but Holds(%v) = %v", l, without, e)
		}
		if e := Holds(cut); e != api.OK {
			t.Fatalf("%v hold, but Holds(%v) = %v", l, cut, e)
		}
	}
	if asked < 1000 || less < 1000 {
		t.Errorf("%d lists hold, %d facts are left out of them", asked, less)
	}
}

// copied are facts of memory of their own.
func copied(l []api.Fact) []api.Fact {
	own := slices.Clone(l)
	for i := range own {
		own[i].Spans = slices.Clone(own[i].Spans)
	}
	return own
}

func sameFacts(a, b []api.Fact) bool {
	return slices.EqualFunc(a, b, func(f, g api.Fact) bool {
		return f.E == g.E && f.A == g.A && f.V == g.V && slices.Equal(f.Spans, g.Spans)
	})
}

func TestWhatIsHandedInStays(t *testing.T) {
	r := rand.New(rand.NewSource(3))
	for range 1000 {
		room := append(drawnFacts(r), fact(500, 10, number(1)), fact(501, 10, number(1)))
		l := room[:len(room)-2]
		kept := copied(room)
		Holds(l)
		attrs, e := Of(l)
		if !sameFacts(room, kept) {
			t.Fatalf("of %v facts became %v", kept, room)
		}
		if e != api.OK {
			continue
		}
		keptAttrs := slices.Clone(attrs)
		again, _ := Of(l)
		Alter(attrs, again)
		ByName(attrs, "b")
		ByID(attrs, 11)
		again = again[:cap(again)]
		for i := range again {
			again[i] = api.Attr{}
		}
		if third, _ := Of(l); !slices.Equal(attrs, keptAttrs) || !slices.Equal(third, keptAttrs) || !sameFacts(room, kept) {
			t.Fatalf("%v share memory with what Of answers once more", attrs)
		}
	}
}

// Many facts that are alike, and never meet but for the last ones: none is held against all others.
func TestHoldsOfMany(t *testing.T) {
	const n = 100000
	l := inOrder(named(10, "price", api.KInt), named(11, "flag", api.KInt), []api.Fact{fact(11, api.AUnique, number(1))})
	for i := range int64(n) {
		l = append(l, fact(12, 10, number(i), 2*(n-i), 2*(n-i)+2))
	}
	for i := range int64(n) {
		l = append(l, fact(13+i, 11, number(0), 2*i, 2*i+2))
	}
	if e := Holds(l); e != api.OK {
		t.Errorf("Holds = %v", e)
	}
	last := &l[len(l)-1].Spans[0]
	last.From = 3
	if e := Holds(l); e != api.ErrUnique {
		t.Errorf("Holds = %v, want ErrUnique", e)
	}
	price := &l[len(l)-1-n].Spans[0]
	price.From = -1
	price.To = 5
	if e := Holds(l); e != api.ErrTwo {
		t.Errorf("Holds = %v, want ErrTwo", e)
	}
}

// What tells attributes stops when no more are wanted, and tells them all when asked again.
func TestAttributesStop(t *testing.T) {
	l := inOrder(named(10, "a", 1), named(12, "b", 2), named(13, "c", 9), named(900, "d", 3))
	want, e := Of(l)
	if e != api.OK || len(want) != 10 {
		t.Fatalf("Of(%v) = %v, %v", l, want, e)
	}
	told := attributes(l)
	for most := 1; most <= len(want); most++ {
		n := 0
		for a := range told {
			if a != want[n] {
				t.Fatalf("attribute %d of %d: %v, want %v", n, most, a, want[n])
			}
			if n++; n == most {
				break
			}
		}
	}
}
