package txn

import (
	"strconv"
	"testing"

	"daybook/api"
)

func added(e, a int64, v api.Value, from, to int64) change { return change{e, a, v, true, from, to} }

func taken(e, a int64, v api.Value, from, to int64) change { return change{e, a, v, false, from, to} }

func TestAdd(t *testing.T) {
	b := people(fact(20, 10, number(7), 0, 10, 20, 30), fact(20, 10, number(8), 10, 20), fact(20, 14, word("red"), 0, 10))
	x := ent(20)
	makes(t, b, nil, 0, nil)
	// What holds already is no change; what holds partly is one in part.
	makes(t, b, []api.Form{add(x, "age", num(7), 0, 10), add(x, "age", num(8), 12, 13), add(x, "tag", plain(word("red")), 3, 4)}, 0, nil)
	makes(t, b, []api.Form{add(x, "age", num(7), -5, 5)}, 0, nil, added(20, 10, number(7), -5, 0))
	makes(t, b, []api.Form{add(x, "age", num(7), -5, 5), add(x, "age", num(7), 3, 15)}, 0, nil, added(20, 10, number(7), -5, 0), added(20, 10, number(7), 10, 15), taken(20, 10, number(8), 10, 15))
	// The elder values give way, stretch by stretch.
	now := makes(t, b, []api.Form{add(x, "age", num(9), 5, 25)}, 0, nil, taken(20, 10, number(7), 5, 10), taken(20, 10, number(7), 20, 25), taken(20, 10, number(8), 10, 20), added(20, 10, number(9), 5, 25))
	if want := []api.Fact{fact(20, 10, number(7), 0, 5, 25, 30), fact(20, 10, number(9), 5, 25), fact(20, 14, word("red"), 0, 10)}; !sameFacts(now.Facts[len(now.Facts)-3:], want) {
		t.Errorf("behind it are %v", now.Facts)
	}
	makes(t, b, []api.Form{add(x, "age", num(6))}, 0, nil, added(20, 10, number(6), never, ever), taken(20, 10, number(7), 0, 10), taken(20, 10, number(7), 20, 30), taken(20, 10, number(8), 10, 20))
	makes(t, b, []api.Form{add(x, "age", num(7), never, ever)}, 0, nil, added(20, 10, number(7), never, 0), added(20, 10, number(7), 10, 20), added(20, 10, number(7), 30, ever), taken(20, 10, number(8), 10, 20))
	makes(t, b, []api.Form{add(x, "age", num(9), 15, 16), add(x, "age", num(7), 16, 17), add(x, "age", num(9), 1, 2)}, 0, nil,
		added(20, 10, number(7), 16, 17), taken(20, 10, number(7), 1, 2), taken(20, 10, number(8), 15, 17), added(20, 10, number(9), 1, 2), added(20, 10, number(9), 15, 16))
	// Not of other entities, nor of other attributes, nor where many may be.
	makes(t, b, []api.Form{add(ent(21), "age", num(7)), add(x, "code", num(7))}, 0, nil, added(20, 15, number(7), never, ever), added(21, 10, number(7), never, ever))
	makes(t, b, []api.Form{add(x, "tag", plain(word("blue")), 5, 15)}, 0, nil, added(20, 14, word("blue"), 5, 15))
	// Whether many may be is said by the base, not by what the transaction adds.
	makes(t, b, []api.Form{add(ent(10), "db/many", plain(truth(1))), add(x, "age", num(9), 5, 6)}, 0, nil, added(10, 3, truth(1), never, ever), taken(20, 10, number(7), 5, 6), added(20, 10, number(9), 5, 6))
	makes(t, b, []api.Form{add(ent(11), "db/unique", num(1))}, 0, nil, added(11, 4, number(1), never, ever), taken(11, 4, number(2), never, ever))
}

func TestCut(t *testing.T) {
	b := people(fact(20, 10, number(7), 0, 10, 20, 30), fact(20, 10, number(8), 10, 20), fact(20, 12, ref(20), 0, 10), fact(20, 12, ref(21), 0, 10), fact(20, 7, text("doc")))
	x := ent(20)
	makes(t, b, []api.Form{cut(x, "age", num(7))}, 0, nil, taken(20, 10, number(7), 0, 10), taken(20, 10, number(7), 20, 30))
	makes(t, b, []api.Form{cut(x, "age", num(7), 5, 25), cut(x, "age", num(7), 3, 6)}, 0, nil, taken(20, 10, number(7), 3, 10), taken(20, 10, number(7), 20, 25))
	makes(t, b, []api.Form{cut(x, "age", num(7), 10, 20), cut(x, "age", num(9)), cut(ent(21), "age", num(7)), cut(x, "code", num(7)), cut(x, "friend", of(ent(22)))}, 0, nil)
	makes(t, b, []api.Form{cut(x, "friend", of(x), 5, ever), cut(x, "friend", plain(ref(21)), never, 5)}, 0, nil, taken(20, 12, ref(20), 5, 10), taken(20, 12, ref(21), 0, 5))
	makes(t, b, []api.Form{cut(x, "db/doc", str("doc")), cut(ent(12), "db/many", plain(truth(0)))}, 0, nil, taken(20, 7, text("doc"), never, ever))
	makes(t, b, []api.Form{cut(x, "age", num(7), 0, 5), add(x, "age", num(7), 5, 15)}, 0, nil, added(20, 10, number(7), 10, 15), taken(20, 10, number(7), 0, 5), taken(20, 10, number(8), 10, 15))
	makes(t, b, []api.Form{cut(temp("n"), "age", num(7))}, 1, []api.Temp{{Name: "n", E: 25}})
}

func TestSwap(t *testing.T) {
	b := people(fact(20, 10, number(7), 0, 10), fact(20, 10, number(8), 10, 20), fact(20, 14, word("red"), 0, 10), fact(20, 14, word("blue"), 5, 15), fact(20, 11, text("m")), fact(20, 16, ref(21)))
	x := ent(20)
	makes(t, b, []api.Form{swap(x, "age", num(7), num(8), 0, 10)}, 0, nil, taken(20, 10, number(7), 0, 10), added(20, 10, number(8), 0, 10))
	makes(t, b, []api.Form{swap(x, "age", num(7), num(9), 3, 5)}, 0, nil, taken(20, 10, number(7), 3, 5), added(20, 10, number(9), 3, 5))
	makes(t, b, []api.Form{swap(x, "age", num(7), num(7), 3, 5)}, 0, nil)
	makes(t, b, []api.Form{swap(x, "age", num(7), num(8), 3, 5), swap(x, "age", num(8), num(7), 13, 15)}, 0, nil, added(20, 10, number(7), 13, 15), taken(20, 10, number(7), 3, 5), added(20, 10, number(8), 3, 5), taken(20, 10, number(8), 13, 15))
	makes(t, b, []api.Form{swap(x, "tag", plain(word("red")), plain(word("green")), 4, 6)}, 0, nil, added(20, 14, word("green"), 4, 6), taken(20, 14, word("red"), 4, 6))
	makes(t, b, []api.Form{swap(x, "tag", plain(word("red")), plain(word("blue")), 4, 6)}, 0, nil, added(20, 14, word("blue"), 4, 5), taken(20, 14, word("red"), 4, 6))
	makes(t, b, []api.Form{swap(look("mail", text("m")), "boss", of(ent(21)), of(temp("n")))}, 1, []api.Temp{{Name: "n", E: 25}}, taken(20, 16, ref(21), never, ever), added(20, 16, ref(25), never, ever))
	makes(t, b, []api.Form{swap(x, "boss", plain(ref(21)), of(look("mail", text("m"))), 5, 6)}, 0, nil, added(20, 16, ref(20), 5, 6), taken(20, 16, ref(21), 5, 6))
	// A swap says no candidate; an add beside it may.
	refuses(t, b, []api.Form{swap(temp("s"), "mail", str("m"), str("n"))}, api.ErrSwap)
	makes(t, b, []api.Form{swap(temp("s"), "mail", str("m"), str("n"), 0, 5), add(temp("s"), "mail", str("m"), 5, 6)}, 0, []api.Temp{{Name: "s", E: 20}}, taken(20, 11, text("m"), 0, 5), added(20, 11, text("n"), 0, 5))
}

func TestGone(t *testing.T) {
	b := people(
		fact(20, 10, number(7)), fact(20, 11, text("m"), 0, 5), fact(20, 12, ref(24)), fact(20, 13, ref(21), 0, 5), fact(20, 7, text("doc")),
		fact(21, 10, number(8)), fact(21, 13, ref(22), 50, 60), fact(21, 13, ref(20), 7, 8), fact(22, 14, word("red")), fact(22, 14, word("blue")), fact(22, 16, ref(23)),
		fact(23, 10, number(9)), fact(23, 12, ref(22)), fact(23, 12, ref(24)), fact(24, 16, ref(20), 3, 4), fact(24, 15, number(22), 1, 2),
	)
	// 20, its part 21, and 22, whose part of time is another one; and who refers to them: not 23, who is no part.
	all := []change{
		taken(20, 7, text("doc"), never, ever), taken(20, 10, number(7), never, ever), taken(20, 11, text("m"), 0, 5), taken(20, 12, ref(24), never, ever), taken(20, 13, ref(21), 0, 5),
		taken(21, 10, number(8), never, ever), taken(21, 13, ref(20), 7, 8), taken(21, 13, ref(22), 50, 60),
		taken(22, 14, word("blue"), never, ever), taken(22, 14, word("red"), never, ever), taken(22, 16, ref(23), never, ever), taken(23, 12, ref(22), never, ever), taken(24, 16, ref(20), 3, 4),
	}
	now := makes(t, b, []api.Form{gone(ent(20))}, 0, nil, all...)
	if want := inOrder(people().Facts, []api.Fact{fact(23, 10, number(9)), fact(23, 12, ref(24)), fact(24, 15, number(22), 1, 2)}); !sameFacts(now.Facts, want) {
		t.Errorf("behind it are %v, want %v", now.Facts, want)
	}
	makes(t, b, []api.Form{gone(ent(21))}, 0, nil, all...)
	makes(t, b, []api.Form{gone(ent(22)), gone(ent(20)), gone(ent(22))}, 0, nil, all...)
	makes(t, b, []api.Form{gone(ent(22))}, 0, nil, taken(21, 13, ref(22), 50, 60), taken(22, 14, word("blue"), never, ever), taken(22, 14, word("red"), never, ever), taken(22, 16, ref(23), never, ever), taken(23, 12, ref(22), never, ever))
	makes(t, b, []api.Form{gone(ent(24)), gone(temp("n"))}, 1, []api.Temp{{Name: "n", E: 25}}, taken(20, 12, ref(24), never, ever), taken(23, 12, ref(24), never, ever), taken(24, 15, number(22), 1, 2), taken(24, 16, ref(20), 3, 4))
	// One that is looked for, by a name of its own or by a temporary one.
	whole := people(fact(20, 11, text("m")), fact(20, 10, number(7)))
	makes(t, whole, []api.Form{gone(look("mail", text("m")))}, 0, nil, taken(20, 10, number(7), never, ever), taken(20, 11, text("m"), never, ever))
	refuses(t, whole, []api.Form{gone(temp("n")), add(temp("n"), "mail", str("m"), 5, 6)}, api.ErrClash)
	refuses(t, whole, []api.Form{gone(temp("n")), add(temp("n"), "mail", str("m"))}, api.ErrClash)
	makes(t, whole, []api.Form{gone(ent(20)), add(ent(20), "mail", str("n")), add(ent(20), "friend", of(ent(20)))}, 0, nil, taken(20, 10, number(7), never, ever), taken(20, 11, text("m"), never, ever), added(20, 11, text("n"), never, ever), added(20, 12, ref(20), never, ever))
}

// An attribute in a family stays, however far from who goes.
func TestGoneOfAttributes(t *testing.T) {
	for _, last := range []int64{1, 7, 10, 18} {
		b := people(fact(20, 13, ref(21), 5, 6), fact(21, 13, ref(0)), fact(21, 13, ref(9)), fact(21, 13, ref(22)), fact(22, 12, ref(last)), fact(23, 13, ref(last), 3, 4))
		refuses(t, b, []api.Form{gone(ent(23))}, api.ErrStays)
		refuses(t, b, []api.Form{gone(ent(24)), gone(ent(23)), gone(ent(22))}, api.ErrStays)
		makes(t, b, []api.Form{gone(ent(20))}, 0, nil, taken(20, 13, ref(21), 5, 6), taken(21, 13, ref(0), never, ever), taken(21, 13, ref(9), never, ever), taken(21, 13, ref(22), never, ever), taken(22, 12, ref(last), never, ever))
		b.Facts = inOrder(b.Facts, []api.Fact{fact(22, 13, ref(last), ever-1, ever)})
		refuses(t, b, []api.Form{gone(ent(20))}, api.ErrStays)
	}
	b := people(fact(9, 10, number(5)), fact(9, 1, word("nine")), fact(9, 13, ref(24)), fact(24, 12, ref(9)), fact(20, 13, ref(9)))
	makes(t, b, []api.Form{gone(ent(20))}, 0, nil, taken(9, 1, word("nine"), never, ever), taken(9, 10, number(5), never, ever), taken(9, 13, ref(24), never, ever), taken(20, 13, ref(9), never, ever), taken(24, 12, ref(9), never, ever))
}

func TestWhoIsMeant(t *testing.T) {
	b := people(fact(20, 11, text("m")), fact(21, 11, text("n"), 0, 10), fact(22, 11, text("n"), 10, 20), fact(5, 11, text("five")), fact(23, 17, ref(20)), fact(22, 15, number(1)))
	temps := func(l ...any) []api.Temp {
		var all []api.Temp
		for i := 0; i < len(l); i += 2 {
			all = append(all, api.Temp{Name: l[i].(string), E: int64(l[i+1].(int))})
		}
		return all
	}
	x, y := temp("x"), temp("y")
	// New ones by their names' bytes, wherever they stand; a name is one entity.
	makes(t, b, []api.Form{add(temp("b"), "friend", of(temp("a"))), add(temp("B"), "friend", of(temp("aa"))), add(temp("b"), "age", num(1))}, 4, temps("B", 25, "a", 26, "aa", 27, "b", 28),
		added(25, 12, ref(27), never, ever), added(28, 10, number(1), never, ever), added(28, 12, ref(26), never, ever))
	// One of a name that somebody has is this one, in all forms; the numbers go on without a gap.
	makes(t, b, []api.Form{add(temp("c"), "age", num(3)), add(y, "friend", of(x)), cut(x, "age", num(5)), add(x, "mail", str("m")), add(temp("a"), "friend", of(temp("z")))}, 4, temps("a", 25, "c", 26, "x", 20, "y", 27, "z", 28),
		added(25, 12, ref(28), never, ever), added(26, 10, number(3), never, ever), added(27, 12, ref(20), never, ever))
	makes(t, b, []api.Form{add(x, "mail", str("m")), add(y, "mail", str("m")), add(y, "age", num(4))}, 0, temps("x", 20, "y", 20), added(20, 10, number(4), never, ever))
	makes(t, b, []api.Form{add(x, "mail", str("n"), 0, 10), add(y, "mail", str("n"), 12, 13)}, 0, temps("x", 21, "y", 22))
	makes(t, b, []api.Form{add(x, "mail", str("five")), add(x, "age", num(1))}, 0, temps("x", 5), added(5, 10, number(1), never, ever))
	makes(t, b, []api.Form{add(x, "twin", plain(ref(20))), add(x, "age", num(1), 0, 1)}, 0, temps("x", 23), added(23, 10, number(1), 0, 1))
	makes(t, b, []api.Form{add(x, "db/name", plain(word("age"))), add(x, "db/doc", str("years"))}, 0, temps("x", 10), added(10, 7, text("years"), never, ever))
	// Not throughout, not by FormAdd, not as E, not by Unique 2, not by a value: nobody.
	refuses(t, b, []api.Form{add(x, "mail", str("n"), 5, 15)}, api.ErrUnique)
	refuses(t, b, []api.Form{add(x, "mail", str("n"), -1, 5)}, api.ErrUnique)
	makes(t, b, []api.Form{add(x, "mail", str("n"), 20, 25)}, 1, temps("x", 25), added(25, 11, text("n"), 20, 25))
	makes(t, b, []api.Form{cut(x, "mail", str("m"))}, 1, temps("x", 25))
	refuses(t, b, []api.Form{add(x, "code", num(1))}, api.ErrUnique)
	refuses(t, b, []api.Form{add(x, "twin", of(ent(20)))}, api.ErrUnique)
	refuses(t, b, []api.Form{add(x, "twin", of(look("mail", text("m"))))}, api.ErrUnique)
	makes(t, b, []api.Form{add(x, "twin", api.Term{IsEnt: true, V: ref(20), E: ent(21)})}, 1, temps("x", 25), added(25, 17, ref(21), never, ever))
	makes(t, b, []api.Form{add(x, "mail", str("o"))}, 1, temps("x", 25), added(25, 11, text("o"), never, ever))
	// Lookups of one value at other times mean others, and numbers may be those of attributes.
	makes(t, b, []api.Form{add(look("mail", text("n")), "boss", of(look("mail", text("n"))), 3, 4), add(look("mail", text("n")), "boss", of(look("mail", text("n"))), 13, 14), add(look("db/name", word("mail")), "boss", of(ent(7)), 0, 1)}, 0, nil,
		added(11, 16, ref(7), 0, 1), added(21, 16, ref(21), 3, 4), added(22, 16, ref(22), 13, 14))
	// A lookup is of the base: what the transaction itself adds is not found.
	refuses(t, b, []api.Form{add(x, "mail", str("o")), add(look("mail", text("o")), "age", num(1))}, api.ErrLookup)
	makes(t, b, []api.Form{cut(ent(20), "mail", str("m")), add(ent(24), "mail", str("m")), add(look("mail", text("m")), "age", num(1))}, 0, nil, added(20, 10, number(1), never, ever), taken(20, 11, text("m"), never, ever), added(24, 11, text("m"), never, ever))
	// A reference to a new one may be by its number, too.
	makes(t, b, []api.Form{add(ent(20), "friend", plain(ref(26))), add(x, "age", num(1)), add(y, "age", num(2))}, 2, temps("x", 25, "y", 26), added(20, 12, ref(26), never, ever), added(25, 10, number(1), never, ever), added(26, 10, number(2), never, ever))
}

// Many forms on many facts: nothing is gone through as often as there are both.
func TestMany(t *testing.T) {
	const n = 30000
	b := people()
	b.Next = 25 + n
	for i := range int64(n) {
		b.Facts = append(b.Facts, fact(24, 10, number(i), 10*i, 10*i+5))
	}
	for i := range int64(n) {
		b.Facts = append(b.Facts, fact(24, 13, ref(25+i)))
	}
	for i := range int64(n) {
		b.Facts = append(b.Facts, fact(25+i, 11, text("m"), 10*i, 10*i+10))
	}
	var l []api.Form
	for i := range int64(n) {
		l = append(l, add(ent(24), "age", num(-i), 10*i+4, 10*i+6), add(temp("t"+strconv.Itoa(int(i))), "mail", str("m"), 10*i, 10*i+10), cut(look("mail", text("m")), "age", num(0), 10*i, 10*i+1))
	}
	now, changes, temps, e := Apply(b, l)
	if e != api.OK || len(changes) != 2*n-1 || len(temps) != n || now.Next != b.Next {
		t.Fatalf("%d changes, %d temporary names, %v", len(changes), len(temps), e)
	}
	all := make([]api.Form, n)
	for i := range all {
		all[i] = gone(ent(24))
	}
	if now, changes, _, e := Apply(now, all); e != api.OK || len(now.Facts) != len(people().Facts) || len(changes) != 4*n-1 {
		t.Errorf("%d facts are left, by %d changes, %v", len(now.Facts), len(changes), e)
	}
	chain := people()
	chain.Next = 25 + n
	for i := range int64(n - 1) {
		chain.Facts = append(chain.Facts, fact(25+i, 13, ref(26+i), i, i+1))
	}
	if now, changes, _, e := Apply(chain, []api.Form{gone(ent(25)), gone(ent(1000))}); e != api.OK || len(now.Facts) != len(people().Facts) || len(changes) != n-1 {
		t.Errorf("%d facts are left, by %d changes, %v", len(now.Facts), len(changes), e)
	}
}
