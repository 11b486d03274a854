package schema

import (
	"slices"
	"strings"
	"testing"

	"daybook/api"
)

const (
	never = api.MinTime
	ever  = api.MaxTime
)

func number(n int64) api.Value { return api.Value{Kind: api.KInt, N: n} }

func truth(n int64) api.Value { return api.Value{Kind: api.KBool, N: n} }

func text(s string) api.Value { return api.Value{Kind: api.KText, S: s} }

func word(s string) api.Value { return api.Value{Kind: api.KWord, S: s} }

func ref(n int64) api.Value { return api.Value{Kind: api.KRef, N: n} }

// fact holds from each odd number on, ahead of the one behind it; the whole time, if there is none.
func fact(e, a int64, v api.Value, l ...int64) api.Fact {
	if len(l) == 0 {
		l = []int64{never, ever}
	}
	f := api.Fact{E: e, A: a, V: v}
	for i := 0; i < len(l); i += 2 {
		f.Spans = append(f.Spans, api.Span{From: l[i], To: l[i+1]})
	}
	return f
}

// named are the two facts that make an attribute.
func named(id int64, name string, kind int64) []api.Fact {
	return []api.Fact{fact(id, api.AName, word(name)), fact(id, api.AType, number(kind))}
}

// inOrder are facts as they stand in a list that may be, if no two are of one triple.
func inOrder(lists ...[]api.Fact) []api.Fact {
	l := slices.Concat(lists...)
	slices.SortFunc(l, func(f, g api.Fact) int {
		switch {
		case ahead(f, g):
			return -1
		case ahead(g, f):
			return 1
		}
		return 0
	})
	return l
}

func ahead(f, g api.Fact) bool {
	if f.E != g.E {
		return f.E < g.E
	}
	if f.A != g.A {
		return f.A < g.A
	}
	if f.V.Kind != g.V.Kind {
		return f.V.Kind < g.V.Kind
	}
	if f.V.N != g.V.N {
		return f.V.N < g.V.N
	}
	return f.V.S < g.V.S
}

// more are facts beside the chapter's, in order.
func more(l ...api.Fact) []api.Fact { return inOrder(named(10, "user/age", api.KInt), l) }

// builtin are the rows of the chapter.
func builtin() []api.Attr {
	return []api.Attr{
		{ID: 1, Name: "db/name", Type: 7, Unique: 2},
		{ID: 2, Name: "db/type", Type: 1},
		{ID: 3, Name: "db/many", Type: 2},
		{ID: 4, Name: "db/unique", Type: 1},
		{ID: 5, Name: "db/part", Type: 2},
		{ID: 6, Name: "db/index", Type: 2},
		{ID: 7, Name: "db/doc", Type: 3},
	}
}

func TestBuiltin(t *testing.T) {
	got := Builtin()
	if !slices.Equal(got, builtin()) {
		t.Fatalf("Builtin() = %v", got)
	}
	got = got[:cap(got)]
	for i := range got {
		got[i] = api.Attr{}
	}
	if again := Builtin(); !slices.Equal(again, builtin()) {
		t.Errorf("Builtin() = %v, once the first answer was written to", again)
	}
}

func TestOf(t *testing.T) {
	long := strings.Repeat("a", api.MaxWord)
	for _, x := range []struct {
		l    []api.Fact
		want []api.Attr
	}{
		{nil, nil},
		{more(), []api.Attr{{ID: 10, Name: "user/age", Type: api.KInt}}},
		{more(fact(11, 10, number(5))), []api.Attr{{ID: 10, Name: "user/age", Type: api.KInt}}},
		// From First on, rising, to the last one that may be.
		{inOrder(named(9, "a", 1), named(0, "b", 1), named(1, "c", 1), named(8, "d", 1)), nil},
		{inOrder(named(api.MaxEntity-1, "a", 1), named(11, "c", 2), named(10, long, 3)), []api.Attr{{ID: 10, Name: long, Type: 3}, {ID: 11, Name: "c", Type: 2}, {ID: api.MaxEntity - 1, Name: "a", Type: 1}}},
		// Spans are not looked at.
		{[]api.Fact{fact(10, api.AName, word("a"), 0, 1), fact(10, api.AType, number(1), 5, 6), fact(10, api.AMany, truth(1), 7, 8), fact(10, api.AUnique, number(1), 9, 10)}, []api.Attr{{ID: 10, Name: "a", Type: 1, Many: true, Unique: 1}}},
		// What a built-in attribute is, it is, whatever facts say.
		{[]api.Fact{fact(1, api.AName, word("a")), fact(1, api.AType, number(3)), fact(2, api.AMany, truth(1)), fact(3, api.AUnique, number(2))}, nil},
		// Just one name, just one type.
		{[]api.Fact{fact(10, api.AName, word("a")), fact(10, api.AName, word("b")), fact(10, api.AType, number(1))}, nil},
		{[]api.Fact{fact(10, api.AName, number(1)), fact(10, api.AName, word("b")), fact(10, api.AType, number(1))}, nil},
		{[]api.Fact{fact(10, api.AName, word("a")), fact(10, api.AType, number(1)), fact(10, api.AType, number(2))}, nil},
		{[]api.Fact{fact(10, api.AName, word("a")), fact(10, api.AType, number(0)), fact(10, api.AType, number(2))}, nil},
		{[]api.Fact{fact(10, api.AName, word("a")), fact(10, api.AType, number(2)), fact(10, api.AType, word("a"))}, nil},
		{[]api.Fact{fact(10, api.AName, word("a"))}, nil},
		{[]api.Fact{fact(10, api.AType, number(1))}, nil},
		{[]api.Fact{fact(10, api.AMany, truth(1)), fact(10, api.ADoc, text("a"))}, nil},
		{[]api.Fact{fact(10, api.AName, text("a")), fact(10, api.AType, number(1))}, nil},
		{[]api.Fact{fact(10, api.AName, word("a")), fact(10, api.AType, ref(1))}, nil},
		{[]api.Fact{fact(10, api.AName, word("a")), fact(11, api.AType, number(1))}, nil},
	} {
		got, e := Of(x.l)
		if want := append(builtin(), x.want...); e != api.OK || !slices.Equal(got, want) {
			t.Errorf("Of(%v) = %v, %v, want %v", x.l, got, e, want)
		}
	}
}

func TestOfTypes(t *testing.T) {
	for n := int64(-2); n < 10; n++ {
		got, e := Of(named(10, "a", n))
		want := builtin()
		if n >= 1 && n <= 7 {
			want = append(want, api.Attr{ID: 10, Name: "a", Type: int(n)})
		}
		if e != api.OK || !slices.Equal(got, want) {
			t.Errorf("Of with type %d = %v, %v", n, got, e)
		}
	}
	for _, n := range []int64{never, 1 << 32, 1<<32 + 1, ever} {
		if got, e := Of(named(10, "a", n)); e != api.OK || len(got) != 7 {
			t.Errorf("Of with type %d = %v, %v", n, got, e)
		}
	}
}

func TestOfWhatAttributesAre(t *testing.T) {
	plain := api.Attr{ID: 10, Name: "a", Type: api.KRef}
	turned := func(turn func(*api.Attr)) api.Attr {
		a := plain
		turn(&a)
		return a
	}
	unique := func(n int) api.Attr { return turned(func(a *api.Attr) { a.Unique = n }) }
	many := turned(func(a *api.Attr) { a.Many = true })
	part := turned(func(a *api.Attr) { a.Part = true })
	index := turned(func(a *api.Attr) { a.Index = true })
	for _, x := range []struct {
		a    int64
		l    []api.Value
		want api.Attr
	}{
		{api.AMany, []api.Value{truth(1)}, many}, {api.APart, []api.Value{truth(1)}, part}, {api.AIndex, []api.Value{truth(1)}, index},
		{api.AMany, []api.Value{truth(0)}, plain}, {api.APart, []api.Value{truth(0)}, plain}, {api.AIndex, []api.Value{truth(0)}, plain},
		{api.AMany, []api.Value{truth(0), truth(1)}, many}, {api.APart, []api.Value{truth(0), truth(1)}, part}, {api.AIndex, []api.Value{truth(0), truth(1)}, index},
		{api.AMany, []api.Value{truth(1), ref(0)}, many}, {api.APart, []api.Value{number(0), truth(1), text("")}, part}, {api.AIndex, []api.Value{truth(0), truth(1), word("a")}, index},
		{api.AMany, []api.Value{number(1)}, plain}, {api.APart, []api.Value{ref(1)}, plain}, {api.AIndex, []api.Value{word("a")}, plain},
		{api.AUnique, []api.Value{number(0)}, plain}, {api.AUnique, []api.Value{number(1)}, unique(1)}, {api.AUnique, []api.Value{number(2)}, unique(2)},
		{api.AUnique, []api.Value{number(1), number(2)}, unique(2)}, {api.AUnique, []api.Value{number(0), number(1), number(3)}, unique(1)}, {api.AUnique, []api.Value{number(never), number(2), number(ever)}, unique(2)},
		{api.AUnique, []api.Value{number(3)}, plain}, {api.AUnique, []api.Value{number(-1)}, plain}, {api.AUnique, []api.Value{number(1<<32 + 1)}, plain}, {api.AUnique, []api.Value{truth(1), ref(2)}, plain},
		{api.AUnique, []api.Value{number(1), ref(2)}, unique(1)}, {api.ADoc, []api.Value{truth(1), number(1)}, plain}, {10, []api.Value{truth(1), number(1)}, plain},
	} {
		l := named(10, "a", api.KRef)
		for _, v := range x.l {
			l = append(l, fact(10, x.a, v))
		}
		got, e := Of(inOrder(l))
		if e != api.OK || !slices.Equal(got, append(builtin(), x.want)) {
			t.Errorf("Of with %v of %d = %v, %v, want %v", x.l, x.a, got, e, x.want)
		}
	}
}

// wrongLists are lists of facts that may not be, some of which break other rows, too.
func wrongLists() [][]api.Fact {
	twice := append(named(10, "a", 1), named(11, "a", 1)...)
	return [][]api.Fact{
		{fact(11, 99, number(5)), fact(10, 99, number(5))},
		{fact(11, 99, number(5)), fact(11, 99, number(5))},
		{fact(-1, 10, number(5))},
		{fact(11, api.MaxEntity, number(5))},
		{fact(11, 10, api.Value{Kind: 8})},
		{fact(11, 10, number(5), 5, 5)},
		{fact(11, 10, number(5), 5, 6, 6, 7)},
		{{E: 11, A: 10, V: number(5)}},
		append(slices.Clone(twice), api.Fact{}),
		append(more(), fact(9, 99, number(5))),
		{fact(10, api.AName, word("")), fact(10, api.AType, number(9))},
	}
}

func TestOfWrong(t *testing.T) {
	for _, l := range wrongLists() {
		if got, e := Of(l); e != api.ErrFacts || len(got) != 0 {
			t.Errorf("Of(%v) = %v, %v, want nothing and ErrFacts", l, got, e)
		}
	}
	for _, l := range sameNames() {
		if got, e := Of(l); e != api.ErrSchema || len(got) != 0 {
			t.Errorf("Of(%v) = %v, %v, want nothing and ErrSchema", l, got, e)
		}
	}
}

// sameNames are lists of facts with two attributes of one name.
func sameNames() [][]api.Fact {
	lists := [][]api.Fact{
		append(named(10, "a", 1), named(11, "a", 1)...),
		append(named(10, "a", 1), named(11, "a", 2)...),
		inOrder(named(10, "a", 1), named(11, "b", 1), named(900, "c", 1), named(901, "a", 1)),
		// Not at one instant, but spans are not looked at.
		{fact(10, api.AName, word("a"), 0, 1), fact(10, api.AType, number(1)), fact(11, api.AName, word("a"), 5, 6), fact(11, api.AType, number(1))},
		// With other faults.
		append(named(10, "a", 1), fact(11, api.AName, word("a")), fact(11, api.AType, number(1)), fact(11, 99, text("b"), 0, 1), fact(12, api.AType, number(9))),
	}
	for _, a := range builtin() {
		lists = append(lists, named(10, a.Name, 1))
	}
	return lists
}

// Of those that are no attributes some may have one's name.
func TestOfNamesOfOthers(t *testing.T) {
	l := inOrder(named(9, "a", 1), named(8, "db/name", 1), named(10, "a", 1), named(11, "a", 8), named(12, "a", 1), []api.Fact{fact(12, api.AName, word("b")), fact(13, api.AName, word("db/type"))})
	want := append(builtin(), api.Attr{ID: 10, Name: "a", Type: 1})
	if got, e := Of(l); e != api.OK || !slices.Equal(got, want) {
		t.Errorf("Of(%v) = %v, %v", l, got, e)
	}
}

func TestByNameAndByID(t *testing.T) {
	a := api.Attr{ID: 10, Name: "a", Type: 1, Many: true, Unique: 1, Part: true, Index: true}
	b := api.Attr{ID: 11, Name: "b", Type: 2}
	sameName := api.Attr{ID: 12, Name: "a", Type: 3}
	sameID := api.Attr{ID: 11, Name: "c", Type: 4}
	l := []api.Attr{b, a, sameName, sameID, {}}
	for _, x := range []struct {
		name string
		want api.Attr
		ok   bool
	}{{"a", a, true}, {"b", b, true}, {"c", sameID, true}, {"", api.Attr{}, true}, {"d", api.Attr{}, false}, {"A", api.Attr{}, false}, {"a ", api.Attr{}, false}} {
		if got, ok := ByName(l, x.name); got != x.want || ok != x.ok {
			t.Errorf("ByName(%q) = %v, %v", x.name, got, ok)
		}
	}
	for _, x := range []struct {
		id   int64
		want api.Attr
		ok   bool
	}{{10, a, true}, {11, b, true}, {12, sameName, true}, {0, api.Attr{}, true}, {13, api.Attr{}, false}, {-10, api.Attr{}, false}, {ever, api.Attr{}, false}} {
		if got, ok := ByID(l, x.id); got != x.want || ok != x.ok {
			t.Errorf("ByID(%d) = %v, %v", x.id, got, ok)
		}
	}
	for _, none := range [][]api.Attr{nil, {}} {
		if got, ok := ByName(none, ""); got != (api.Attr{}) || ok {
			t.Errorf("ByName of none = %v, %v", got, ok)
		}
		if got, ok := ByID(none, 0); got != (api.Attr{}) || ok {
			t.Errorf("ByID of none = %v, %v", got, ok)
		}
	}
	for _, a := range builtin() {
		byName, named := ByName(Builtin(), a.Name)
		byID, numbered := ByID(Builtin(), a.ID)
		if byName != a || !named || byID != a || !numbered {
			t.Errorf("%v is not found", a)
		}
	}
}

func TestAlter(t *testing.T) {
	a, b := api.Attr{ID: 10, Name: "a", Type: 1}, api.Attr{ID: 11, Name: "b", Type: 5}
	allElse := api.Attr{ID: 10, Name: "a", Type: 1, Many: true, Unique: 2, Part: true, Index: true}
	id, name, kind := a, a, a
	id.ID, name.Name, kind.Type = 12, "c", 2
	for _, x := range []struct {
		old, now []api.Attr
		want     api.Errno
	}{
		{nil, nil, api.OK}, {nil, []api.Attr{a}, api.OK}, {[]api.Attr{a}, nil, api.ErrAlter},
		{[]api.Attr{a, b}, []api.Attr{a, b}, api.OK}, {[]api.Attr{a, b}, []api.Attr{b, id, a}, api.OK}, {[]api.Attr{a, a}, []api.Attr{a}, api.OK},
		{[]api.Attr{a, b}, []api.Attr{a}, api.ErrAlter}, {[]api.Attr{a, b}, []api.Attr{b}, api.ErrAlter},
		{[]api.Attr{a}, []api.Attr{allElse}, api.OK}, {[]api.Attr{allElse}, []api.Attr{a}, api.OK},
		{[]api.Attr{a}, []api.Attr{id}, api.ErrAlter}, {[]api.Attr{a}, []api.Attr{name}, api.ErrAlter}, {[]api.Attr{a}, []api.Attr{kind}, api.ErrAlter},
		// One of them must have all three; which of two of one ID comes first makes no difference.
		{[]api.Attr{a}, []api.Attr{id, name, kind}, api.ErrAlter}, {[]api.Attr{a}, []api.Attr{kind, name, a}, api.OK},
		{[]api.Attr{a, kind}, []api.Attr{a, kind}, api.OK}, {[]api.Attr{a, kind}, []api.Attr{a}, api.ErrAlter},
		{Builtin(), nil, api.ErrAlter}, {Builtin(), append(Builtin(), a), api.OK}, {append(Builtin(), a), Builtin(), api.ErrAlter},
		{[]api.Attr{{}}, []api.Attr{{}}, api.OK}, {[]api.Attr{{}}, []api.Attr{a}, api.ErrAlter},
	} {
		if e := Alter(x.old, x.now); e != x.want {
			t.Errorf("Alter(%v, %v) = %v, want %v", x.old, x.now, e, x.want)
		}
	}
}
