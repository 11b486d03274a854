package txn

import (
	"slices"
	"strings"
	"testing"

	"daybook/api"
)

// crowd is the base of the rows' tests: 20 has a mail and an age, 21 a mail for a part of time, 5 one too, and 22 is 20's child.
func crowd() api.Base {
	return people(
		fact(20, 10, number(7), 0, 10), fact(20, 11, text("m")), fact(20, 13, ref(22)), fact(20, 14, word("red"), 0, 5), fact(20, 16, ref(21)),
		fact(21, 11, text("n"), 0, 10, 20, 30), fact(22, 11, text("n"), 10, 20), fact(5, 11, text("five")), fact(23, 17, ref(20)), fact(23, 18, text("p")), fact(23, 18, text("q")), fact(22, 15, number(1)),
	)
}

// fault is an error, with forms each of which has it alone, and forms that are like these, but have none.
type fault struct {
	e     api.Errno
	wrong []api.Form
	right []api.Form
}

// faults are those of single forms on the crowd, row by row.
func faults() []fault {
	x, m := temp("x"), look("mail", text("m"))
	return []fault{
		{api.ErrForm, noForms(), []api.Form{add(temp("\x00"), "age", num(1)), add(temp(strings.Repeat("\xff", 64)), "age", num(1)), add(temp("?A 1"), "age", num(1)), {Op: api.FormGone, E: ent(23), A: "none", V: plain(api.Value{Kind: 9}), Old: of(api.Entity{Kind: 9}), From: never, To: ever}, {Op: api.FormAdd, E: ent(20), A: "age", V: num(1), Old: of(api.Entity{Kind: 9}), From: never, To: ever}}},
		{api.ErrNoAttr, []api.Form{add(x, "", num(1)), add(x, "none", num(1)), add(x, "Age", num(1)), cut(x, "none", num(1)), swap(ent(20), "none", num(7), num(8)), add(look("none", text("m")), "age", num(1)), add(x, "friend", of(look("none", text("m")))), cut(x, "friend", of(look("", text("m")))), swap(ent(20), "boss", of(look("none", text("m"))), of(ent(21))), swap(ent(20), "boss", of(ent(21)), of(look("none", text("m")))), gone(look("none", text("m"))), gone(look("ag", text("m")))},
			[]api.Form{{Op: api.FormGone, E: ent(23), A: "none", From: never, To: ever}, add(x, "db/doc", str("a"))}},
		{api.ErrEntity, []api.Form{add(ent(25), "age", num(1)), add(ent(26), "age", num(1)), add(ent(ever), "age", num(1)), add(ent(9), "age", num(1)), add(ent(5), "age", num(1)), add(ent(0), "age", num(1)), add(ent(-1), "age", num(1)), add(ent(never), "age", num(1)), cut(ent(25), "age", num(1)), cut(ent(9), "age", num(1)), gone(ent(25)), gone(ent(5)), swap(ent(9), "age", num(7), num(8)), swap(ent(25), "age", num(7), num(8)),
			add(x, "friend", of(ent(25))), add(x, "friend", of(ent(26))), cut(x, "friend", of(ent(25))), add(ent(20), "friend", plain(ref(25))), cut(ent(20), "friend", plain(ref(25))), add(x, "friend", plain(ref(26))), swap(ent(20), "boss", plain(ref(21)), plain(ref(25))), swap(ent(20), "boss", plain(ref(25)), plain(ref(21))), swap(ent(20), "boss", of(ent(21)), of(ent(25))), swap(ent(20), "boss", of(ent(25)), of(ent(21))), add(ent(20), "age", plain(ref(25)))},
			[]api.Form{add(ent(24), "age", num(1)), add(ent(10), "age", num(1)), add(x, "friend", of(ent(24))), add(x, "friend", of(ent(0))), add(x, "friend", plain(ref(0))), add(x, "friend", plain(ref(25))), add(ent(20), "friend", plain(ref(24))), gone(ent(24))}},
		{api.ErrLookup, []api.Form{add(look("mail", text("o")), "age", num(1)), add(look("mail", text("")), "age", num(1)), add(look("mail", number(1)), "age", num(1)), add(look("mail", word("m")), "age", num(1)), add(look("age", number(7)), "age", num(1), 0, 10), add(look("code", number(1)), "age", num(1)), add(look("friend", ref(20)), "age", num(1)), add(look("db/doc", text("m")), "age", num(1)),
			add(look("mail", text("n")), "age", num(1)), add(look("mail", text("n")), "age", num(1), 0, 11), add(look("mail", text("n")), "age", num(1), -1, 1), add(look("mail", text("n")), "age", num(1), 5, 25), add(look("mail", text("n")), "age", num(1), 30, 31), add(look("mail", text("n")), "age", num(1), never, 0), add(look("mail", text("n")), "age", num(1), 30, ever),
			add(look("mail", text("five")), "age", num(1)), cut(look("mail", text("five")), "age", num(1)), swap(look("mail", text("five")), "mail", str("five"), str("six")), gone(look("mail", text("five"))), gone(look("mail", text("n"))), gone(look("twin", ref(21))), add(look("db/name", word("db/doc")), "age", num(1)), add(look("db/name", text("age")), "age", num(1)),
			add(x, "friend", of(look("mail", text("o")))), cut(x, "friend", of(look("mail", text("o")))), swap(ent(20), "boss", of(look("mail", text("o"))), of(ent(20))), swap(ent(20), "boss", of(ent(21)), of(look("mail", text("o")))), add(x, "friend", of(look("mail", text("n"))), 9, 11), add(x, "age", of(look("age", number(7))), 0, 10)},
			[]api.Form{add(m, "age", num(1)), add(look("mail", text("n")), "age", num(1), 0, 10), add(look("mail", text("n")), "age", num(1), 20, 30), add(look("mail", text("n")), "age", num(1), 10, 20), add(look("mail", text("n")), "age", num(1), 25, 26), add(x, "friend", of(look("mail", text("five")))), add(look("twin", ref(20)), "age", num(1)), add(look("alias", text("p")), "age", num(1)), add(look("db/name", word("age")), "db/doc", str("a")), gone(look("twin", ref(20)))}},
		{api.ErrWrong, []api.Form{add(ent(20), "age", str("x")), add(ent(20), "age", plain(api.Value{Kind: api.KTime, N: 1})), cut(ent(20), "age", plain(truth(1))), swap(ent(20), "age", str("x"), num(7), 0, 10), swap(ent(20), "age", num(7), str("x"), 0, 10), add(ent(20), "age", of(ent(21))), add(ent(20), "mail", of(x)), cut(ent(20), "age", of(m)), add(ent(20), "age", plain(ref(21))), add(ent(20), "friend", num(21)), add(ent(20), "friend", str("x")), swap(ent(20), "mail", of(ent(20)), str("x")), swap(ent(20), "mail", str("m"), of(ent(20))), add(x, "db/name", str("x")), add(x, "db/type", plain(truth(1))), {Op: api.FormAdd, E: ent(20), A: "age", V: api.Term{IsEnt: true, E: ent(21), V: number(1)}, From: never, To: ever}},
			[]api.Form{add(ent(20), "age", num(1)), add(ent(20), "friend", of(ent(21))), add(ent(20), "friend", plain(ref(21))), add(ent(20), "friend", of(x)), add(ent(20), "friend", of(m)), add(ent(20), "tag", plain(word("x")))}},
		{api.ErrStretch, []api.Form{add(ent(20), "db/doc", str("x"), 0, 5), add(ent(20), "db/doc", str("x"), never, 5), add(ent(20), "db/doc", str("x"), 0, ever), add(ent(20), "db/doc", str("x"), never, ever-1), cut(ent(20), "db/doc", str("x"), 0, 5), cut(ent(10), "db/many", plain(truth(1)), 0, 5), cut(ent(10), "db/name", plain(word("age")), 0, 5), swap(ent(11), "db/unique", num(2), num(1), 0, 5), gone(ent(20), 0, 5), gone(ent(20), never, 5), gone(ent(20), 0, ever), gone(x, never+1, ever), gone(ent(10), 0, 5), swap(ent(20), "db/doc", str("x"), str("y"), 0, 5)},
			[]api.Form{add(ent(20), "db/doc", str("x")), cut(ent(20), "db/doc", str("x")), gone(ent(20)), swap(ent(11), "db/unique", num(2), num(1))}},
		{api.ErrStays, []api.Form{cut(ent(10), "db/name", plain(word("age"))), cut(ent(10), "db/name", plain(word("other"))), cut(ent(10), "db/type", num(1)), cut(ent(20), "db/type", num(1)), cut(x, "db/name", plain(word("a"))), gone(ent(10)), gone(ent(18)), gone(look("db/name", word("age")))},
			[]api.Form{cut(ent(14), "db/many", plain(truth(1))), cut(ent(11), "db/unique", num(2)), cut(ent(13), "db/part", plain(truth(1))), cut(ent(13), "db/index", plain(truth(1))), cut(ent(10), "db/doc", str("a")), gone(x)}},
		{api.ErrSwap, []api.Form{swap(ent(20), "age", num(8), num(9)), swap(ent(20), "age", num(7), num(8)), swap(ent(20), "age", num(7), num(8), 0, 11), swap(ent(20), "age", num(7), num(8), -1, 5), swap(ent(20), "age", num(7), num(8), 10, 11), swap(ent(21), "age", num(7), num(8), 0, 5), swap(x, "age", num(7), num(8), 0, 5), swap(ent(20), "age", num(8), num(7), 0, 5), swap(ent(20), "age", num(8), num(8), 0, 5), swap(ent(20), "boss", of(ent(22)), of(ent(21))), swap(ent(20), "boss", of(x), of(ent(21))), swap(ent(21), "mail", str("n"), str("o"), 5, 25), swap(ent(22), "boss", of(ent(21)), of(m))},
			[]api.Form{swap(ent(20), "age", num(7), num(8), 0, 10), swap(m, "age", num(7), num(8), 3, 4), swap(ent(20), "boss", of(ent(21)), of(x)), swap(ent(20), "boss", plain(ref(21)), of(ent(22)), 0, 5), swap(ent(20), "boss", of(look("mail", text("n"))), of(ent(22)), 0, 5), swap(ent(20), "age", num(7), num(7), 3, 4), swap(ent(21), "mail", str("n"), str("o"), 20, 30), swap(ent(21), "mail", str("n"), str("o"), 0, 3)}},
	}
}

// noForms are forms that may not be, each for one thing alone.
func noForms() []api.Form {
	var l []api.Form
	turned := func(turns ...func(f *api.Form)) {
		for _, turn := range turns {
			f := add(ent(20), "age", num(1))
			turn(&f)
			l = append(l, f)
		}
	}
	for _, op := range []int{0, -1, 5, 1 << 40} {
		turned(func(f *api.Form) { f.Op = op })
	}
	for _, s := range [][2]int64{{0, 0}, {1, 0}, {ever, never}, {ever, ever}, {never, never}, {5, 4}} {
		turned(func(f *api.Form) { f.From, f.To = s[0], s[1] }, func(f *api.Form) { f.From, f.To, f.Op = s[0], s[1], api.FormGone })
	}
	notSome := []api.Value{{}, {Kind: 8}, {Kind: -1, N: 1}, {Kind: api.KInt, S: "a"}, {Kind: api.KBool, N: 2}, text(strings.Repeat("a", 1001)), word(""), word("A"), ref(-1), ref(api.MaxEntity)}
	entities := []api.Entity{{}, {Kind: 4, N: 20}, {Kind: -1, N: 20}, temp(""), temp(strings.Repeat("a", 65))}
	for _, v := range notSome {
		entities = append(entities, look("mail", v))
		turned(func(f *api.Form) { f.V = plain(v) }, func(f *api.Form) { f.V, f.Op = plain(v), api.FormCut }, func(f *api.Form) { f.V, f.Old, f.Op = plain(v), num(7), api.FormSwap }, func(f *api.Form) { f.V, f.Old, f.Op = num(7), plain(v), api.FormSwap })
	}
	for _, x := range entities {
		turned(func(f *api.Form) { f.E = x }, func(f *api.Form) { f.E, f.Op = x, api.FormGone }, func(f *api.Form) { f.A, f.V = "friend", of(x) },
			func(f *api.Form) { *f = swap(ent(20), "boss", of(ent(21)), of(x)) }, func(f *api.Form) { *f = swap(ent(20), "boss", of(x), of(ent(21))) })
	}
	return l
}

func TestRows(t *testing.T) {
	b := crowd()
	if e := Check(b); e != api.OK {
		t.Fatalf("the base may not be: %v", e)
	}
	for _, x := range faults() {
		for _, f := range x.wrong {
			refuses(t, b, []api.Form{f}, x.e)
			refuses(t, b, []api.Form{add(ent(24), "age", num(1)), f, cut(ent(24), "age", num(2))}, x.e)
		}
		for _, f := range x.right {
			if now, _, _, e := Apply(b, []api.Form{f}); e != api.OK || Check(now) != api.OK {
				t.Errorf("Apply(%v) = %v", f, e)
			}
		}
	}
}

// Of some rows that are broken the first one says the error, in whatever order the forms stand.
func TestFirstRow(t *testing.T) {
	l := faults()
	one := func(e api.Errno) []api.Form {
		switch e {
		case api.ErrTwin:
			return []api.Form{add(temp("two"), "mail", str("m")), add(temp("two"), "alias", str("p"))}
		case api.ErrClash:
			return []api.Form{add(ent(24), "age", num(5)), cut(ent(24), "age", num(5))}
		case api.ErrUnique:
			return []api.Form{add(ent(24), "code", num(1))}
		}
		i := slices.IndexFunc(l, func(x fault) bool { return x.e == e })
		return l[i].wrong[:1]
	}
	order := []api.Errno{api.ErrForm, api.ErrNoAttr, api.ErrEntity, api.ErrLookup, api.ErrTwin, api.ErrWrong, api.ErrStretch, api.ErrStays, api.ErrSwap, api.ErrClash, api.ErrUnique}
	for some := 1; some < 1<<len(order); some++ {
		var forms []api.Form
		want := api.OK
		for i := len(order) - 1; i >= 0; i-- {
			if some>>i&1 == 1 {
				forms, want = append(forms, one(order[i])...), order[i]
			}
		}
		if _, _, _, e := Apply(crowd(), forms); e != want {
			t.Fatalf("Apply(%v) = %v, want %v", forms, e, want)
		}
		slices.Reverse(forms)
		if _, _, _, e := Apply(crowd(), forms); e != want {
			t.Fatalf("Apply(%v) = %v, want %v", forms, e, want)
		}
	}
}

func TestNewEntitiesFit(t *testing.T) {
	with := func(next int64) api.Base { return api.Base{Facts: crowd().Facts, Next: next, T: 3} }
	three := []api.Form{add(temp("x"), "age", num(1)), add(temp("y"), "mail", str("m")), add(temp("z"), "friend", of(temp("w")))}
	for _, x := range []struct {
		next int64
		l    []api.Form
		want api.Errno
	}{
		{api.MaxEntity, nil, api.OK}, {api.MaxEntity, three[1:2], api.OK}, {api.MaxEntity, three[:1], api.ErrEntity}, {api.MaxEntity - 1, three[:1], api.OK}, {api.MaxEntity - 1, three[:2], api.OK},
		{api.MaxEntity - 2, three, api.ErrEntity}, {api.MaxEntity - 3, three, api.OK}, {api.MaxEntity, []api.Form{gone(temp("x"))}, api.ErrEntity}, {api.MaxEntity, []api.Form{add(ent(20), "friend", of(temp("x")))}, api.ErrEntity},
		// What is of an error ahead of that row, or behind it.
		{api.MaxEntity, []api.Form{add(temp("x"), "none", num(1))}, api.ErrNoAttr}, {api.MaxEntity, []api.Form{add(temp("x"), "age", str("a"))}, api.ErrEntity}, {api.MaxEntity, []api.Form{add(temp("x"), "mail", str("m")), add(temp("x"), "alias", str("p"))}, api.ErrTwin},
		{api.MaxEntity, []api.Form{add(ent(api.MaxEntity-1), "age", num(1))}, api.OK}, {api.MaxEntity, []api.Form{add(ent(api.MaxEntity), "age", num(1))}, api.ErrEntity}, {api.MaxEntity, []api.Form{add(ent(20), "friend", plain(ref(api.MaxEntity-1)))}, api.OK},
	} {
		now, _, _, e := Apply(with(x.next), x.l)
		if e != x.want || e == api.OK && Check(now) != api.OK {
			t.Errorf("Apply of Next %d, %v = %v, want %v", x.next, x.l, e, x.want)
		}
	}
}

func TestTwins(t *testing.T) {
	x := temp("x")
	m, p := add(x, "mail", str("m")), add(x, "alias", str("p"))
	for _, c := range []struct {
		l    []api.Form
		want api.Errno
	}{
		{[]api.Form{m, p}, api.ErrTwin}, {[]api.Form{m, add(temp("y"), "alias", str("p"))}, api.OK}, {[]api.Form{p, add(x, "alias", str("q"))}, api.OK}, {[]api.Form{m, m}, api.OK},
		// Nobody has these: no candidate.
		{[]api.Form{m, add(x, "alias", str("new"))}, api.OK}, {[]api.Form{p, add(x, "mail", str("new"))}, api.OK},
		// The span is the form's.
		{[]api.Form{add(x, "mail", str("n"), 0, 10), add(x, "mail", str("n"), 10, 20)}, api.ErrTwin}, {[]api.Form{add(x, "mail", str("n"), 0, 10), add(x, "mail", str("n"), 20, 30)}, api.OK}, {[]api.Form{m, add(x, "mail", str("n"), 5, 15)}, api.ErrClash},
		// Forms that are no FormAdd, attributes whose Unique is not 2, and terms have none.
		{[]api.Form{m, cut(x, "alias", str("p"))}, api.OK}, {[]api.Form{m, swap(x, "alias", str("p"), str("r"))}, api.ErrSwap}, {[]api.Form{m, add(x, "code", num(1))}, api.ErrUnique}, {[]api.Form{m, add(x, "twin", of(ent(20)))}, api.ErrUnique},
		{[]api.Form{m, add(x, "twin", plain(ref(20)))}, api.ErrTwin}, {[]api.Form{m, add(ent(23), "friend", of(x))}, api.OK},
		{[]api.Form{add(x, "mail", str("five")), add(x, "age", num(3))}, api.OK},
	} {
		if now, _, _, e := Apply(crowd(), c.l); e != c.want || e == api.OK && Check(now) != api.OK {
			t.Errorf("Apply(%v) = %v, want %v", c.l, e, c.want)
		}
	}
}

func TestClashes(t *testing.T) {
	x := ent(24)
	for _, c := range []struct {
		l    []api.Form
		want api.Errno
	}{
		{[]api.Form{add(x, "age", num(7)), add(x, "age", num(7))}, api.OK}, {[]api.Form{add(x, "age", num(7), 0, 9), add(x, "age", num(7), 5, 20)}, api.OK}, {[]api.Form{add(x, "age", num(7), 0, 9), add(x, "age", num(8), 9, 20)}, api.OK}, {[]api.Form{add(x, "age", num(8), 9, 20), add(x, "age", num(7), 0, 10)}, api.ErrClash},
		{[]api.Form{add(x, "age", num(7), 0, 100), add(x, "age", num(8), 50, 51)}, api.ErrClash}, {[]api.Form{add(x, "age", num(7), 0, 5), add(x, "age", num(7), 10, 15), add(x, "age", num(8), 5, 10)}, api.OK}, {[]api.Form{add(x, "age", num(7), 0, 5), add(x, "age", num(7), 10, 15), add(x, "age", num(8), 5, 11)}, api.ErrClash},
		{[]api.Form{add(x, "age", num(7)), add(ent(23), "age", num(8))}, api.OK}, {[]api.Form{add(x, "age", num(7)), add(x, "code", num(8))}, api.OK}, {[]api.Form{add(x, "tag", plain(word("a"))), add(x, "tag", plain(word("b")))}, api.OK},
		{[]api.Form{add(temp("a"), "age", num(7)), add(temp("a"), "mail", str("m")), add(ent(20), "age", num(8))}, api.ErrClash}, {[]api.Form{add(x, "boss", of(temp("a"))), add(x, "boss", of(temp("b")))}, api.ErrClash}, {[]api.Form{add(x, "boss", of(ent(20))), add(x, "boss", of(look("mail", text("m"))))}, api.OK},
		{[]api.Form{add(x, "age", num(7)), cut(x, "age", num(7))}, api.ErrClash}, {[]api.Form{add(x, "age", num(7), 0, 9), cut(x, "age", num(7), 9, 20)}, api.OK}, {[]api.Form{add(x, "age", num(7), 0, 9), cut(x, "age", num(7), 8, 20)}, api.ErrClash}, {[]api.Form{add(x, "age", num(7)), cut(x, "age", num(8))}, api.OK}, {[]api.Form{add(x, "tag", plain(word("a"))), cut(x, "tag", plain(word("a")), 3, 4)}, api.ErrClash},
		{[]api.Form{swap(ent(20), "age", num(7), num(8), 0, 10), add(ent(20), "age", num(7), 9, 11)}, api.ErrClash}, {[]api.Form{swap(ent(20), "age", num(7), num(8), 0, 10), add(ent(20), "age", num(9), 9, 11)}, api.ErrClash}, {[]api.Form{swap(ent(20), "age", num(7), num(8), 0, 10), cut(ent(20), "age", num(8), 9, 11)}, api.ErrClash}, {[]api.Form{swap(ent(20), "age", num(7), num(8), 0, 10), add(ent(20), "age", num(7), 10, 11), cut(ent(20), "age", num(7), 0, 10), cut(ent(20), "age", num(8), 10, 11)}, api.OK},
		// A swap of one and the same adds and cuts nothing.
		{[]api.Form{swap(ent(20), "age", num(7), num(7), 0, 10), cut(ent(20), "age", num(7))}, api.OK}, {[]api.Form{swap(ent(20), "age", num(7), num(7), 0, 10), add(ent(20), "age", num(8))}, api.OK}, {[]api.Form{swap(ent(20), "boss", of(ent(21)), of(look("mail", text("n"))), 0, 5), cut(ent(20), "boss", of(ent(21)))}, api.OK},
		// A gone cuts what the base has, at all instants; nothing else.
		{[]api.Form{gone(ent(20)), add(ent(20), "age", num(7), 0, 1)}, api.ErrClash}, {[]api.Form{gone(ent(20)), add(ent(20), "age", num(7), 50, 60)}, api.ErrClash}, {[]api.Form{gone(ent(20)), add(ent(20), "age", num(8), 0, 1)}, api.OK}, {[]api.Form{gone(ent(20)), add(ent(22), "mail", str("n"), 12, 13)}, api.ErrClash}, {[]api.Form{gone(ent(20)), add(ent(23), "twin", of(ent(20)))}, api.ErrClash}, {[]api.Form{gone(ent(20)), add(ent(24), "friend", of(ent(20)))}, api.OK},
		{[]api.Form{gone(ent(20)), cut(ent(20), "age", num(7)), gone(ent(22))}, api.OK}, {[]api.Form{gone(ent(20)), swap(ent(20), "age", num(7), num(8), 0, 10)}, api.OK}, {[]api.Form{gone(temp("n")), add(temp("n"), "age", num(5))}, api.OK},
	} {
		for range 2 {
			if now, _, _, e := Apply(crowd(), c.l); e != c.want || e == api.OK && Check(now) != api.OK {
				t.Errorf("Apply(%v) = %v, want %v", c.l, e, c.want)
			}
			slices.Reverse(c.l)
		}
	}
}

// Layer 7's errors, of the facts behind.
func TestBehindMustHold(t *testing.T) {
	yes := plain(truth(1))
	for _, c := range []struct {
		l    []api.Form
		want api.Errno
	}{
		{[]api.Form{add(temp("a"), "db/name", plain(word("new"))), add(temp("a"), "db/type", num(1))}, api.OK}, {[]api.Form{add(ent(24), "db/name", plain(word("new"))), add(ent(24), "db/type", num(7))}, api.OK},
		// A name that an attribute has means this one; a name of one that is built in is no fact's.
		{[]api.Form{add(temp("a"), "db/name", plain(word("age"))), add(temp("a"), "db/type", num(1))}, api.OK}, {[]api.Form{add(ent(24), "db/name", plain(word("age"))), add(ent(24), "db/type", num(1))}, api.ErrSchema}, {[]api.Form{add(temp("a"), "db/name", plain(word("db/doc"))), add(temp("a"), "db/type", num(1))}, api.ErrSchema},
		{[]api.Form{add(ent(23), "db/name", plain(word("new"))), add(ent(23), "db/type", num(1)), add(temp("a"), "db/name", plain(word("new"))), add(temp("a"), "db/type", num(1))}, api.ErrSchema},
		{[]api.Form{add(temp("a"), "db/name", plain(word("new")))}, api.ErrType}, {[]api.Form{add(temp("a"), "db/type", num(1))}, api.ErrType}, {[]api.Form{add(temp("a"), "db/name", plain(word("new"))), add(temp("a"), "db/type", num(8))}, api.ErrType}, {[]api.Form{add(temp("a"), "db/unique", num(3))}, api.ErrType}, {[]api.Form{add(temp("a"), "db/unique", num(-1))}, api.ErrType}, {[]api.Form{add(temp("a"), "db/unique", num(0))}, api.OK},
		// An attribute that is no more Many, with two values at an instant.
		{[]api.Form{cut(ent(18), "db/many", yes)}, api.ErrTwo}, {[]api.Form{add(ent(18), "db/many", plain(truth(0)))}, api.ErrTwo}, {[]api.Form{cut(ent(18), "db/many", yes), cut(ent(23), "alias", str("p"), never, 0), cut(ent(23), "alias", str("q"), 0, ever)}, api.OK},
		{[]api.Form{add(ent(24), "code", num(1))}, api.ErrUnique}, {[]api.Form{add(ent(24), "code", num(1)), cut(ent(22), "code", num(1))}, api.OK}, {[]api.Form{add(ent(24), "mail", str("n"), 0, 1)}, api.ErrUnique}, {[]api.Form{add(ent(24), "mail", str("n"), 30, ever)}, api.OK}, {[]api.Form{add(temp("a"), "mail", str("z"), 0, 5), add(temp("b"), "mail", str("z"), 4, 6)}, api.ErrUnique},
		{[]api.Form{add(ent(10), "db/unique", num(1)), add(ent(24), "age", num(7), 9, 10)}, api.ErrUnique}, {[]api.Form{add(ent(10), "db/unique", num(1)), add(ent(24), "age", num(7), 10, 11)}, api.OK},
		{[]api.Form{add(ent(10), "db/part", yes)}, api.ErrPart}, {[]api.Form{add(ent(10), "db/part", plain(truth(0)))}, api.OK}, {[]api.Form{add(ent(16), "db/part", yes)}, api.OK},
		// An attribute of another name, or type.
		{[]api.Form{add(ent(10), "db/name", plain(word("new")))}, api.ErrAlter}, {[]api.Form{swap(ent(10), "db/name", plain(word("age")), plain(word("new")))}, api.ErrAlter}, {[]api.Form{add(ent(24), "db/name", plain(word("new"))), add(ent(24), "db/type", num(1)), add(ent(19), "db/name", plain(word("newer"))), add(ent(19), "db/type", num(3))}, api.OK},
		{[]api.Form{add(ent(14), "db/type", num(7))}, api.OK}, {[]api.Form{add(ent(18), "db/type", num(7))}, api.ErrType}, {[]api.Form{add(ent(12), "db/type", num(1))}, api.ErrAlter}, {[]api.Form{swap(ent(12), "db/type", num(5), num(4))}, api.ErrAlter},
		// The names of two attributes, one for the other's, make the same names of others.
		{[]api.Form{add(ent(10), "db/name", plain(word("mail"))), add(ent(11), "db/name", plain(word("age")))}, api.ErrAlter},
		// A term's number below 0 is below Next, but no value that may be.
		{[]api.Form{add(ent(24), "friend", of(ent(-1)))}, api.ErrFacts}, {[]api.Form{cut(ent(24), "friend", of(ent(-1)))}, api.OK}, {[]api.Form{swap(ent(20), "boss", of(ent(never)), of(ent(21)))}, api.ErrSwap},
		// A row of Holds goes ahead of Alter.
		{[]api.Form{add(ent(12), "db/type", num(1)), add(ent(24), "code", num(1))}, api.ErrUnique}, {[]api.Form{add(ent(10), "db/name", plain(word("mail")))}, api.ErrSchema}, {[]api.Form{add(ent(13), "db/type", num(1))}, api.ErrType},
	} {
		if now, _, _, e := Apply(crowd(), c.l); e != c.want || e == api.OK && Check(now) != api.OK {
			t.Errorf("Apply(%v) = %v, want %v", c.l, e, c.want)
		}
	}
}
