package schema

import (
	"testing"

	"daybook/api"
)

func TestHolds(t *testing.T) {
	of11 := func(v api.Value, l ...int64) api.Fact { return fact(11, 10, v, l...) }
	for _, x := range []struct {
		l    []api.Fact
		want api.Errno
	}{
		{nil, api.OK}, {[]api.Fact{}, api.OK}, {more(), api.OK},
		{more(of11(number(5))), api.OK}, {more(of11(text("x"))), api.ErrType},
		{more(of11(number(5), 0, 9), of11(number(6), 8, 20)), api.ErrTwo}, {more(fact(11, 99, number(5))), api.ErrAttr},
		// What meets has no instant in common.
		{more(of11(number(5), 0, 9), of11(number(6), 9, 20)), api.OK}, {more(of11(number(5), 9, 20), of11(number(6), 0, 9)), api.OK},
		{more(of11(number(5), 0, 9), of11(number(6), 9, 20), of11(number(7), 19, 20)), api.ErrTwo},
		{more(of11(number(5), 0, 2, 4, 6), of11(number(6), 2, 4, 6, 8)), api.OK}, {more(of11(number(5), 0, 2, 4, 6), of11(number(6), 2, 5, 6, 8)), api.ErrTwo},
		{more(of11(number(5), 0, 100), of11(number(6), 50, 51)), api.ErrTwo}, {more(of11(number(5), 50, 51), of11(number(6), 0, 100)), api.ErrTwo},
		{more(of11(number(5), 0, 1, 9, 10), of11(number(6), 2, 3), of11(number(7), 4, 11)), api.ErrTwo},
		{more(of11(number(5), never, 0), of11(number(6), 0, ever)), api.OK}, {more(of11(number(5)), of11(number(6), ever-1, ever)), api.ErrTwo}, {more(of11(number(5)), of11(number(6))), api.ErrTwo},
		// Of other entities, and of other attributes, there may be another one.
		{more(of11(number(5)), fact(12, 10, number(6))), api.OK}, {more(of11(number(5)), fact(12, 10, number(5))), api.OK},
		{inOrder(more(of11(number(5)), fact(11, 12, number(6))), named(12, "a", 1)), api.OK},
		{more(fact(0, 10, number(5)), fact(9, 10, number(5)), fact(10, 10, number(5)), fact(1, 10, number(5))), api.OK},
	} {
		if e := Holds(x.l); e != x.want {
			t.Errorf("Holds(%v) = %v, want %v", x.l, e, x.want)
		}
	}
}

// Each row's error, by each way to break it.
func TestHoldsRows(t *testing.T) {
	for _, x := range rowFaults() {
		for _, l := range x.lists {
			if e := Holds(l); e != x.e {
				t.Errorf("Holds(%v) = %v, want %v", l, e, x.e)
			}
		}
	}
}

// Of some rows that are broken at once the first one says the error, wherever in the list the facts stand.
func TestHoldsFirstRow(t *testing.T) {
	apart := apartFaults()
	for some := range 1 << len(apart) {
		var l []api.Fact
		want := api.OK
		for i := len(apart) - 1; i >= 0; i-- {
			if some>>i&1 == 1 {
				l = inOrder(l, apart[i].lists[0])
				want = apart[i].e
			}
		}
		if e := Holds(l); e != want {
			t.Errorf("Holds(%v) = %v, want %v", l, e, want)
		}
		if len(l) > 0 {
			if e := Holds(append(l, l[0])); e != api.ErrFacts {
				t.Errorf("Holds(%v) = %v, want ErrFacts", append(l, l[0]), e)
			}
		}
	}
}

// apartFaults are the table's rows from ErrSchema on, each with one list of facts that breaks it; they have nothing in common. The later a row, the more ahead stand its facts.
func apartFaults() []fault {
	return []fault{
		{api.ErrSchema, [][]api.Fact{append(named(200, "a", 1), named(201, "a", 1)...)}},
		{api.ErrAttr, [][]api.Fact{{fact(180, 999, number(5))}}},
		{api.ErrType, [][]api.Fact{append(named(160, "b", 1), fact(161, 160, text("5")))}},
		{api.ErrTwo, [][]api.Fact{append(named(140, "c", 1), fact(141, 140, number(5)), fact(141, 140, number(6)))}},
		{api.ErrUnique, [][]api.Fact{append(named(120, "d", 1), fact(120, api.AUnique, number(1)), fact(121, 120, number(5)), fact(122, 120, number(5)))}},
		{api.ErrWhole, [][]api.Fact{{fact(100, api.ADoc, text("e"), 0, 1)}}},
		{api.ErrPart, [][]api.Fact{append(named(80, "f", 1), fact(80, api.APart, truth(1)))}},
	}
}

type fault struct {
	e     api.Errno
	lists [][]api.Fact
}

// rowFaults are the table's rows, each with lists of facts that break it, and none ahead of it.
func rowFaults() []fault {
	age := func(l ...api.Fact) []api.Fact { return more(l...) }
	mail := func(unique int64, l ...api.Fact) []api.Fact {
		return inOrder(named(20, "mail", api.KText), []api.Fact{fact(20, api.AUnique, number(unique))}, l)
	}
	bad := func(e, a int64, v api.Value, l ...int64) []api.Fact { return []api.Fact{fact(e, a, v, l...)} }
	whole := [][]api.Fact{bad(10, api.ADoc, text("x"), 0, 1), bad(11, api.ADoc, text("x"), never, ever-1), bad(0, api.ADoc, text("x"), never+1, ever), bad(11, api.AMany, truth(1), never, 0, 1, ever), bad(9, api.AName, word("x"), 0, 1), bad(1, api.AType, number(1), 0, 1), bad(11, api.AUnique, number(0), 0, 1), bad(11, api.APart, truth(0), 0, 1), bad(11, api.AIndex, truth(0), 0, 1)}
	whole = append(whole, inOrder(bad(10, api.AName, word("a"), 0, 5), bad(10, api.AType, number(1))), inOrder(bad(10, api.AName, word("a")), bad(10, api.AType, number(1), 0, 5)))
	var parts [][]api.Fact
	for n := int64(1); n <= 7; n++ {
		if n != api.KRef {
			parts = append(parts, append(named(30, "part", n), fact(30, api.APart, truth(1))))
		}
	}
	return []fault{
		{api.ErrFacts, wrongLists()},
		{api.ErrSchema, sameNames()},
		{api.ErrAttr, [][]api.Fact{
			bad(40, 99, number(1)), bad(40, 0, number(1)), bad(40, 8, number(1)), bad(40, 9, number(1)), bad(40, 40, number(1)), bad(40, api.MaxEntity-1, number(1)),
			inOrder(named(9, "x", 1), bad(41, 9, number(1))), inOrder(bad(40, api.AName, word("x")), bad(40, 40, number(1))), inOrder(named(40, "x", 8), bad(41, 40, number(1))),
		}},
		{api.ErrType, [][]api.Fact{
			age(fact(11, 10, text("5"))), age(fact(11, 10, api.Value{Kind: api.KTime, N: 5})), age(fact(11, 10, number(5), 0, 1), fact(11, 10, ref(5), 3, 4)), mail(0, fact(21, 20, api.Value{Kind: api.KBytes, S: "a"})),
			bad(50, api.AName, text("a")), bad(9, api.AName, text("a")), bad(50, api.AMany, number(1)), bad(50, api.AUnique, truth(1)), bad(50, api.APart, ref(1)), bad(50, api.AIndex, number(0)), bad(50, api.ADoc, word("a")),
			// What wants to be an attribute, and is none.
			bad(50, api.AName, word("a")), bad(50, api.AType, number(1)), bad(api.First, api.AType, number(1)), bad(api.First, api.AName, word("a"), 0, 1),
			inOrder(named(50, "a", 1), bad(50, api.AName, word("b"))), inOrder(named(50, "a", 1), bad(50, api.AType, number(2))), named(50, "a", 0), named(50, "a", 8),
			// Numbers without a meaning, though it is no made entity.
			bad(9, api.AType, number(0)), bad(0, api.AType, number(8)), bad(1, api.AType, number(-1)), bad(9, api.AType, number(ever)), bad(9, api.AType, number(1<<32+1)),
			bad(9, api.AUnique, number(-1)), bad(50, api.AUnique, number(3)), bad(50, api.AUnique, number(never)), bad(50, api.AUnique, number(1<<32), 0, 1),
		}},
		{api.ErrTwo, [][]api.Fact{
			age(fact(11, 10, number(5)), fact(11, 10, number(6), 0, 1)), inOrder(bad(9, api.AName, word("a"), 0, 5), bad(9, api.AName, word("b"), 4, 6)), inOrder(bad(50, api.ADoc, text("a")), bad(50, api.ADoc, text("b"))),
			inOrder(bad(50, api.AUnique, number(0)), bad(50, api.AUnique, number(1))), inOrder(bad(50, api.AMany, truth(0)), bad(50, api.AMany, truth(1))), inOrder(bad(9, api.AType, number(1)), bad(9, api.AType, number(2))),
			age(fact(10, api.AMany, truth(0)), fact(11, 10, number(1)), fact(11, 10, number(2))),
		}},
		{api.ErrUnique, [][]api.Fact{
			mail(1, fact(21, 20, text("m")), fact(22, 20, text("m"))), mail(2, fact(21, 20, text("m"), 0, 5), fact(22, 20, text("m"), 4, 6)), mail(1, fact(22, 20, text("m"), 0, 5), fact(21, 20, text("m"), 4, 6)),
			mail(2, fact(21, 20, text("m"), 0, 1, 8, 9), fact(22, 20, text("m"), 2, 3), fact(23, 20, text("m"), 7, 10)),
			inOrder(mail(1, fact(20, api.AMany, truth(1)), fact(21, 20, text("k")), fact(21, 20, text("m")), fact(23, 20, text("m"), 4, 5))),
			inOrder(bad(8, api.AName, word("a"), 0, 5), bad(9, api.AName, word("a"), 4, 6)), inOrder(bad(0, api.AName, word("db/doc")), bad(9, api.AName, word("db/doc"))), inOrder(bad(9, api.AName, word("a")), named(50, "a", 1)),
		}},
		{api.ErrWhole, whole},
		{api.ErrPart, parts},
	}
}
