package txn

import (
	"slices"
	"strings"
	"testing"

	"daybook/api"
)

const (
	never = api.MinTime
	ever  = api.MaxTime
)

func number(n int64) api.Value { return api.Value{Kind: api.KInt, N: n} }

func truth(n int64) api.Value { return api.Value{Kind: api.KBool, N: n} }

func text(s string) api.Value { return api.Value{Kind: api.KText, S: s} }

func word(s string) api.Value { return api.Value{Kind: api.KWord, S: s} }

func ref(n int64) api.Value { return api.Value{Kind: api.KRef, N: n} }

// fact holds from each odd number on, ahead of the one behind it; the whole time, if there is none.
func fact(e, a int64, v api.Value, l ...int64) api.Fact {
	if len(l) == 0 {
		l = []int64{never, ever}
	}
	f := api.Fact{E: e, A: a, V: v}
	for i := 0; i < len(l); i += 2 {
		f.Spans = append(f.Spans, api.Span{From: l[i], To: l[i+1]})
	}
	return f
}

// made are the facts of an attribute; of many, unique and part those whose letters, m, 1 or 2, and p, are among its marks.
func made(id int64, name string, kind int64, marks string) []api.Fact {
	l := []api.Fact{fact(id, api.AName, word(name)), fact(id, api.AType, number(kind))}
	if strings.Contains(marks, "m") {
		l = append(l, fact(id, api.AMany, truth(1)))
	}
	for n := int64(1); n <= 2; n++ {
		if strings.Contains(marks, string(rune('0'+n))) {
			l = append(l, fact(id, api.AUnique, number(n)))
		}
	}
	if strings.Contains(marks, "p") {
		l = append(l, fact(id, api.APart, truth(1)))
	}
	return l
}

// ahead says how two facts of unlike triples stand.
func ahead(f, g api.Fact) int {
	for _, d := range [][2]int64{{f.E, g.E}, {f.A, g.A}, {int64(f.V.Kind), int64(g.V.Kind)}, {f.V.N, g.V.N}} {
		if d[0] < d[1] {
			return -1
		}
		if d[0] > d[1] {
			return 1
		}
	}
	return strings.Compare(f.V.S, g.V.S)
}

func inOrder(lists ...[]api.Fact) []api.Fact {
	l := slices.Concat(lists...)
	slices.SortFunc(l, ahead)
	return l
}

func form(op int, x api.Entity, a string, v, old api.Term, at ...int64) api.Form {
	f := api.Form{Op: op, E: x, A: a, V: v, Old: old, From: never, To: ever}
	if len(at) > 0 {
		f.From, f.To = at[0], at[1]
	}
	return f
}

func add(x api.Entity, a string, v api.Term, at ...int64) api.Form {
	return form(api.FormAdd, x, a, v, api.Term{}, at...)
}

func cut(x api.Entity, a string, v api.Term, at ...int64) api.Form {
	return form(api.FormCut, x, a, v, api.Term{}, at...)
}

func gone(x api.Entity, at ...int64) api.Form {
	return form(api.FormGone, x, "", api.Term{}, api.Term{}, at...)
}

func swap(x api.Entity, a string, old, v api.Term, at ...int64) api.Form {
	return form(api.FormSwap, x, a, v, old, at...)
}

func ent(n int64) api.Entity { return api.Entity{Kind: api.EntNumber, N: n} }

func temp(s string) api.Entity { return api.Entity{Kind: api.EntTemp, Name: s} }

func look(s string, v api.Value) api.Entity { return api.Entity{Kind: api.EntLook, Name: s, V: v} }

func of(x api.Entity) api.Term { return api.Term{IsEnt: true, E: x} }

func plain(v api.Value) api.Term { return api.Term{V: v} }

func num(n int64) api.Term { return plain(number(n)) }

func str(s string) api.Term { return plain(text(s)) }

// The base of the chapter's examples, with more facts.
func chapter(l ...api.Fact) api.Base {
	return api.Base{Facts: inOrder(made(10, "user/age", api.KInt, ""), made(11, "user/mail", api.KText, "2"), []api.Fact{fact(12, 11, text("m"))}, l), Next: 13, T: 4}
}

// people is a base with attributes of many sorts: 20 to 24 are not attributes.
func people(l ...api.Fact) api.Base {
	return api.Base{Facts: inOrder(
		made(10, "age", api.KInt, ""), made(11, "mail", api.KText, "2"), made(12, "friend", api.KRef, "m"), made(13, "child", api.KRef, "mp"),
		made(14, "tag", api.KWord, "m"), made(15, "code", api.KInt, "1"), made(16, "boss", api.KRef, ""), made(17, "twin", api.KRef, "2"), made(18, "alias", api.KText, "m2"),
		l,
	), Next: 25, T: 7}
}

func sameFacts(a, b []api.Fact) bool {
	return slices.EqualFunc(a, b, func(f, g api.Fact) bool {
		return f.E == g.E && f.A == g.A && f.V == g.V && slices.Equal(f.Spans, g.Spans)
	})
}

func sameBase(a, b api.Base) bool {
	return a.Next == b.Next && a.T == b.T && sameFacts(a.Facts, b.Facts)
}

// refuses says that forms have an error, and that nothing else is answered.
func refuses(t *testing.T, b api.Base, l []api.Form, want api.Errno) {
	t.Helper()
	now, changes, temps, e := Apply(b, l)
	if e != want || now.Facts != nil || now.Next != 0 || now.T != 0 || changes != nil || temps != nil {
		t.Errorf("Apply(%v) = %v, %v, %v, %v, want %v alone", l, now, changes, temps, e, want)
	}
}

// change is a datom without its T.
type change struct {
	e, a     int64
	v        api.Value
	add      bool
	from, to int64
}

// makes says that forms make just these changes and temporary names of a base, and so many new entities.
func makes(t *testing.T, b api.Base, l []api.Form, fresh int64, temps []api.Temp, changes ...change) api.Base {
	t.Helper()
	now, said, who, e := Apply(b, l)
	var want []api.Datom
	for _, c := range changes {
		want = append(want, api.Datom{E: c.e, A: c.a, V: c.v, T: b.T + 1, Add: c.add, From: c.from, To: c.to})
	}
	if e != api.OK || now.Next != b.Next+fresh || now.T != b.T+1 || !slices.Equal(said, want) || !slices.Equal(who, temps) {
		t.Errorf("Apply(%v) = Next %d, T %d, %v, %v, %v, want Next %d, T %d, %v, %v", l, now.Next, now.T, said, who, e, b.Next+fresh, b.T+1, want, temps)
	}
	if e := Check(now); e != api.OK {
		t.Errorf("Check of what Apply(%v) answers = %v", l, e)
	}
	return now
}

func TestChapter(t *testing.T) {
	b := chapter()
	makes(t, b, []api.Form{add(temp("x"), "user/age", num(7)), add(temp("x"), "user/mail", str("m"))}, 0, []api.Temp{{Name: "x", E: 12}}, change{12, 10, number(7), true, never, ever})
	makes(t, b, []api.Form{add(temp("x"), "user/age", num(7)), add(temp("y"), "user/age", num(8))}, 2, []api.Temp{{Name: "x", E: 13}, {Name: "y", E: 14}},
		change{13, 10, number(7), true, never, ever}, change{14, 10, number(8), true, never, ever})
	refuses(t, b, []api.Form{add(ent(12), "user/age", num(7), 0, 9), add(ent(12), "user/age", num(8), 8, 20)}, api.ErrClash)
	refuses(t, b, []api.Form{swap(ent(12), "user/mail", str("n"), str("o"))}, api.ErrSwap)
	noEntity, wrong := add(ent(99), "user/age", num(1)), add(ent(12), "user/age", str("x"))
	refuses(t, b, []api.Form{noEntity}, api.ErrEntity)
	refuses(t, b, []api.Form{wrong}, api.ErrWrong)
	refuses(t, b, []api.Form{noEntity, wrong}, api.ErrEntity)
	refuses(t, b, []api.Form{wrong, noEntity}, api.ErrEntity)
}

// The examples of the whole, as far as they are of transactions.
func TestWhole(t *testing.T) {
	b := makes(t, api.Base{Next: api.First}, []api.Form{
		add(temp("a"), "db/name", plain(word("p/age"))), add(temp("a"), "db/type", num(1)),
		add(temp("n"), "db/name", plain(word("p/name"))), add(temp("n"), "db/type", num(3)), add(temp("n"), "db/unique", num(2)),
	}, 2, []api.Temp{{Name: "a", E: 10}, {Name: "n", E: 11}},
		change{10, 1, word("p/age"), true, never, ever}, change{10, 2, number(1), true, never, ever},
		change{11, 1, word("p/name"), true, never, ever}, change{11, 2, number(3), true, never, ever}, change{11, 4, number(2), true, never, ever})
	b = makes(t, b, []api.Form{add(temp("x"), "p/name", str("Ann")), add(temp("x"), "p/age", num(30), 0, 100)}, 1, []api.Temp{{Name: "x", E: 12}},
		change{12, 10, number(30), true, 0, 100}, change{12, 11, text("Ann"), true, never, ever})
	b = makes(t, b, []api.Form{add(temp("y"), "p/name", str("Ann")), add(temp("y"), "p/age", num(31), 50, 100)}, 0, []api.Temp{{Name: "y", E: 12}},
		change{12, 10, number(30), false, 50, 100}, change{12, 10, number(31), true, 50, 100})
	if want := []api.Fact{fact(12, 10, number(30), 0, 50), fact(12, 10, number(31), 50, 100), fact(12, 11, text("Ann"))}; !sameFacts(b.Facts[len(b.Facts)-3:], want) || b.T != 3 {
		t.Errorf("behind them are %v", b)
	}
	refuses(t, b, []api.Form{add(ent(12), "p/age", str("old"))}, api.ErrWrong)
	refuses(t, b, []api.Form{add(ent(99), "p/age", num(1))}, api.ErrEntity)
}

func TestCheck(t *testing.T) {
	with := func(next, tx int64, l ...api.Fact) api.Base {
		return api.Base{Facts: inOrder(made(10, "age", api.KInt, ""), made(11, "friend", api.KRef, ""), l), Next: next, T: tx}
	}
	for _, x := range []struct {
		b    api.Base
		want api.Errno
	}{
		{api.Base{}, api.ErrArg}, {api.Base{Next: 9}, api.ErrArg}, {api.Base{Next: -1}, api.ErrArg}, {api.Base{Next: never}, api.ErrArg},
		{api.Base{Next: 10}, api.OK}, {api.Base{Next: 11}, api.OK}, {api.Base{Next: api.MaxEntity}, api.OK}, {api.Base{Next: api.MaxEntity + 1}, api.ErrArg}, {api.Base{Next: ever}, api.ErrArg},
		{api.Base{Next: 10, T: -1}, api.ErrArg}, {api.Base{Next: 10, T: never}, api.ErrArg}, {api.Base{Next: 10, T: api.MaxTx - 1}, api.OK}, {api.Base{Next: 10, T: api.MaxTx}, api.ErrArg}, {api.Base{Next: 10, T: ever}, api.ErrArg},
		// All entities are below Next.
		{with(12, 0), api.OK}, {with(11, 0), api.ErrArg}, {with(10, 0), api.ErrArg},
		{with(13, 1, fact(12, 10, number(500))), api.OK}, {with(12, 1, fact(12, 10, number(5))), api.ErrArg}, {with(12, 1, fact(500, 10, number(5))), api.ErrArg},
		{with(13, 1, fact(12, 11, ref(12))), api.OK}, {with(13, 1, fact(12, 11, ref(13))), api.ErrArg}, {with(14, 1, fact(12, 11, ref(13))), api.OK}, {with(13, 1, fact(12, 11, ref(0), 5, 6)), api.OK},
		{with(13, 1, fact(0, 10, number(5)), fact(9, 11, ref(13))), api.ErrArg}, {with(13, 1, fact(0, 10, number(5)), fact(9, 11, ref(9))), api.OK},
		// The facts hold.
		{with(20, 1, fact(12, 10, text("x"))), api.ErrArg}, {with(20, 1, fact(12, 13, number(1))), api.ErrArg}, {with(20, 1, fact(12, 10, number(1)), fact(12, 10, number(2))), api.ErrArg},
		{with(20, 1, fact(12, 10, number(1), 0, 1), fact(12, 10, number(2), 1, 2)), api.OK}, {with(20, 1, fact(12, 10, number(1), 1, 1)), api.ErrArg}, {with(20, 1, fact(12, 10, number(1)), fact(12, 10, number(1))), api.ErrArg},
		{with(20, 1, made(12, "age", api.KInt, "")...), api.ErrArg}, {with(20, 1, made(12, "a", api.KInt, "p")...), api.ErrArg}, {with(20, 1, fact(12, api.ADoc, text("a"), 0, 1)), api.ErrArg},
		{with(20, 1, append(made(12, "a", api.KInt, "1"), fact(13, 12, number(1)), fact(14, 12, number(1)))...), api.ErrArg},
		{chapter(), api.OK}, {people(), api.OK},
	} {
		if e := Check(x.b); e != x.want {
			t.Errorf("Check(%v) = %v, want %v", x.b, e, x.want)
		}
		if x.want == api.OK {
			if now, changes, temps, e := Apply(x.b, nil); e != api.OK || !sameFacts(now.Facts, x.b.Facts) || now.Next != x.b.Next || now.T != x.b.T+1 || len(changes) > 0 || len(temps) > 0 {
				t.Errorf("Apply(%v, none) = %v, %v, %v, %v", x.b, now, changes, temps, e)
			}
			continue
		}
		refuses(t, x.b, nil, api.ErrArg)
		refuses(t, x.b, []api.Form{{}}, api.ErrArg)
		refuses(t, x.b, []api.Form{add(ent(12), "age", num(5))}, api.ErrArg)
	}
}

func TestNames(t *testing.T) {
	for _, x := range []struct {
		l    []api.Form
		want []string
	}{
		{nil, nil}, {[]api.Form{}, nil}, {[]api.Form{add(ent(12), "age", num(1)), gone(look("mail", text("x")))}, nil},
		{[]api.Form{add(temp("b"), "age", num(1)), cut(temp("a"), "age", num(1)), gone(temp("c")), swap(temp("a"), "age", num(1), num(2))}, []string{"a", "b", "c"}},
		{[]api.Form{add(ent(12), "friend", of(temp("t"))), cut(ent(12), "friend", of(temp("s"))), swap(ent(12), "friend", of(temp("r")), of(temp("q")))}, []string{"q", "r", "s", "t"}},
		// By their bytes.
		{[]api.Form{gone(temp("b")), gone(temp("aa")), gone(temp("")), gone(temp("é")), gone(temp("a\x00")), gone(temp("a")), gone(temp("Z")), gone(temp("\xff")), gone(temp("a"))}, []string{"", "Z", "a", "a\x00", "aa", "b", "é", "\xff"}},
		// What stands in fields that a form does not name is not one.
		{[]api.Form{{Op: api.FormAdd, E: ent(12), V: num(1), Old: of(temp("o"))}, {Op: api.FormCut, E: ent(12), V: num(1), Old: of(temp("o"))}, {Op: api.FormGone, E: ent(12), V: of(temp("v")), Old: of(temp("o"))}}, nil},
		{[]api.Form{{Op: api.FormSwap, E: ent(12), V: api.Term{E: temp("v")}, Old: api.Term{E: temp("o")}}}, nil},
		{[]api.Form{gone(api.Entity{Kind: api.EntNumber, Name: "n"}), gone(api.Entity{Kind: api.EntLook, Name: "l"}), gone(api.Entity{Name: "k"}), gone(api.Entity{Kind: 4, Name: "k"}), gone(api.Entity{Kind: api.EntTemp, N: 5, Name: "t", V: text("v")})}, []string{"t"}},
		{[]api.Form{add(temp("x"), "", num(1), 5, 5), add(temp(strings.Repeat("y", 65)), "", api.Term{})}, []string{"x", strings.Repeat("y", 65)}},
	} {
		kept := slices.Clone(x.l)
		if got := Names(x.l); !slices.Equal(got, x.want) || !slices.Equal(x.l, kept) {
			t.Errorf("Names(%v) = %q, want %q", x.l, got, x.want)
		}
	}
}

// What is told one by one stops when no more is wanted.
func TestIteratorsStop(t *testing.T) {
	f := swap(temp("a"), "friend", of(temp("c")), of(temp("b")))
	b := people()
	for most := 1; most <= 3; most++ {
		n := 0
		for x, isE := range entitiesOf(f) {
			if want := string(rune('a' + n)); x.Name != want || isE != (n == 0) {
				t.Errorf("entity %d is %v, %v", n, x, isE)
			}
			if n++; n == most {
				break
			}
		}
		n = 0
		for m := range newTrial(b, slices.Repeat([]api.Form{f}, 3)).meanings() {
			if want := (meaning{api.FormSwap, 25, api.Attr{ID: 12, Name: "friend", Type: api.KRef, Many: true}, ref(26), ref(27), api.Span{From: never, To: ever}}); m != want {
				t.Errorf("meaning %d is %v, want %v", n, m, want)
			}
			if n++; n == most {
				break
			}
		}
		if n != most {
			t.Errorf("%d were told, want %d", n, most)
		}
	}
}
