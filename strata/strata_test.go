package strata

import (
	"fmt"
	"slices"
	"strings"
	"testing"

	"daybook/api"
	"daybook/rule"
)

// asked is a query's text's.
func asked(t *testing.T, s string) api.Query {
	t.Helper()
	q, line, column, e := rule.Parse(s)
	if e != api.OK {
		t.Fatalf("%q is no query: %d:%d, %v", s, line, column, e)
	}
	return q
}

// clauses are those of a text. An `and` may stand anywhere there.
func clauses(t *testing.T, s string) []api.Clause {
	t.Helper()
	if s == "" {
		return nil
	}
	return asked(t, "(query (find (count)) (where (or (and "+s+"))))").Where[0].Kids[0].Kids
}

func brief(x any) string { return fmt.Sprintf("%.500s", fmt.Sprint(x)) }

func equalClauses(a, b []api.Clause) bool {
	return slices.EqualFunc(a, b, func(c, d api.Clause) bool {
		return c.Kind == d.Kind && c.Name == d.Name && c.Out == d.Out && slices.Equal(c.Args, d.Args) && equalClauses(c.Kids, d.Kids)
	})
}

// lists are clauses with variables that are bound, and that stand outside, with their order (or "unsafe") and what is bound then.
var lists = []struct{ l, bound, outside, order, is string }{
	// The chapter's.
	{"(< ?x 5) [_ :n ?x]", "", "", "1 0", "?x"},
	{"(< ?x 5)", "", "", "unsafe", ""},
	{"(+ ?x 1 -> ?y)", "?x", "", "0", "?x ?y"},
	{"(not [?x :a ?y]) [?x :b _]", "", "", "1 0", "?x"},
	{"(not [?x :a ?y]) [?x :b _]", "", "?y", "unsafe", "?x"},
	{"(or [?x :a ?z] (and [?x :b ?y] (< ?y 3)))", "", "?x", "0", "?x"},
	// No clauses; what is bound at first is told, in the order of bytes, each once.
	{"", "", "", "", ""},
	{"", "?b ?a ?b", "?c", "", "?a ?b"},
	{"[?c :a ?b]", "?d ?a ?d ?b", "?z", "0", "?a ?b ?c ?d"},
	// Facts and calls bind all, and can be taken always.
	{"[?e ?a ?v ?t ?op]", "", "", "0", "?a ?e ?op ?t ?v"},
	{"[_ _ _] (f _ 1) (f ?x ?y ?x)", "", "", "0 1 2", "?x ?y"},
	{"(f ?x) [?x :a ?y]", "?x ?y", "", "0 1", "?x ?y"},
	// Predicates ask for all, and bind nothing.
	{"(< ?x ?y)", "?x", "", "unsafe", "?x"},
	{"(< ?x ?y)", "?y", "", "unsafe", "?y"},
	{"(< ?x ?y)", "?x ?y", "", "0", "?x ?y"},
	{"(= ?x ?x) (= 1 2)", "?x", "", "0 1", "?x"},
	{"(= 1 2)", "", "?x", "0", ""},
	{"(< ?x 5)", "", "?x", "unsafe", ""},
	// Functions ask for their arguments alone, and bind Out.
	{"(+ ?x ?y -> ?z)", "?x", "", "unsafe", "?x"},
	{"(+ ?x ?y -> ?z)", "?x ?z", "", "unsafe", "?x ?z"},
	{"(+ ?x ?y -> ?z)", "?y ?x", "", "0", "?x ?y ?z"},
	{"(+ 1 2 -> ?z)", "", "", "0", "?z"},
	{"(+ ?z 1 -> ?z)", "", "", "unsafe", ""},
	{"(+ ?z 1 -> ?z)", "?z", "", "0", "?z"},
	{"(sub ?a 1 ?b -> ?c) (neg ?c -> ?d) (= ?d ?b)", "?b", "", "unsafe", "?b"},
	{"(sub ?a 1 ?b -> ?c) (neg ?c -> ?d) (= ?d ?b)", "?b ?a", "", "0 1 2", "?a ?b ?c ?d"},
	// Each time the first one that can be taken.
	{"(= ?d 1) (+ ?c 1 -> ?d) (+ ?b 1 -> ?c) (+ ?a 1 -> ?b) [?a _ _]", "", "", "4 3 2 1 0", "?a ?b ?c ?d"},
	{"(= ?a 1) (= ?b 1) [?b _ _] [?a _ _] (= ?b ?a)", "", "", "2 1 3 0 4", "?a ?b"},
	{"[?b _ _] (= ?a 1) (= ?b 1) [?a _ _]", "", "", "0 2 3 1", "?a ?b"},
	{"(= ?a 1) [?b _ _] [?a _ _] [?c _ _] (= ?b 1)", "", "", "1 2 0 3 4", "?a ?b ?c"},
	{"(= ?a 1) (= ?b 1) [?a _ _] (= ?c 1) [?c _ _]", "", "", "unsafe", "?a ?c"},
	{"[?x _ _] [?x _ _] [?x _ _]", "", "", "0 1 2", "?x"},
	// Nots: what they share is asked for, whatever else they have.
	{"(not [?x :a ?y])", "", "", "0", ""},
	{"(not [?x :a ?y])", "", "?x ?y", "unsafe", ""},
	{"(not [?x :a ?y])", "?x", "?x ?y", "unsafe", "?x"},
	{"(not [?x :a ?y])", "?x ?y", "?x ?y", "0", "?x ?y"},
	{"(not [?x :a ?y])", "?z", "?z", "0", "?z"},
	{"(not [?x :a ?y]) (not [?y :a ?z])", "", "", "unsafe", ""},
	{"(not [?x :a ?y]) (not [?y :a ?z])", "?y", "", "0 1", "?y"},
	{"(not [?x :a ?y]) (not [?x :a ?y])", "?x", "", "unsafe", "?x"},
	{"(not (< ?x 1)) [?x _ _]", "", "", "1 0", "?x"},
	{"(not (< ?x 1))", "", "", "unsafe", ""},
	{"(not (< ?x 1))", "?x", "", "0", "?x"},
	{"(not (< ?x 1) [?x _ _])", "", "", "0", ""},
	{"(not [?x _ _] (< ?x ?y)) [?y _ _]", "", "", "1 0", "?y"},
	{"(not [?x _ _] (< ?x ?y))", "", "", "unsafe", ""},
	{"(not (+ ?x 1 -> ?y)) [?x _ _] (= ?y 1)", "", "", "unsafe", "?x"},
	{"(not (+ ?x 1 -> ?y)) [?x _ _] [?y _ _]", "", "", "1 2 0", "?x ?y"},
	// What a not binds within it is bound there alone; a variable of one name within two nots is shared by both.
	{"(not [?x _ _]) (= ?x 1)", "", "", "unsafe", ""},
	{"(not (not [?x _ _]) [?x _ _]) [_ _ _]", "", "", "0 1", ""},
	{"(not (not (= ?x 1)) [?x _ _])", "", "", "0", ""},
	{"(not (not [?x _ _ ]) (= ?x 1))", "", "", "unsafe", ""},
	{"(not (not [?x :a ?y] (not [?y :b ?z])) [?x _ _])", "", "", "0", ""},
	{"(not (not [?x :a ?y] (not [?z :b ?y])) [?z _ _])", "", "", "0", ""},
	{"(not (not [?x :a ?y] (not [?z :b ?y] (= ?w 1))) [?z _ _])", "", "", "unsafe", ""},
	{"(not (not [?x :a ?y] (not [?z :b ?y] (= ?w 1))) [?z _ _])", "?w", "", "0", "?w"},
	{"(not (not (not [?x _ _])) [?y _ _]) [?x _ _]", "", "", "1 0", "?x"},
	// Ors bind what they share, if each of their kids does, or it is bound already.
	{"(or [?x :a ?y] [?x :b ?z])", "", "", "0", ""},
	{"(or [?x :a ?y] [?x :b ?z]) (= ?x 1)", "", "", "0 1", "?x"},
	{"(or [?x :a ?y] [?x :b ?z]) (= ?y 1)", "", "", "unsafe", ""},
	{"(or [?x :a ?y] [?x :b ?z]) (= ?y 1) [?y _ _]", "", "", "2 0 1", "?y"},
	{"(or [?x :a ?y] [?x :b ?z])", "", "?x ?y", "unsafe", ""},
	{"(or [?x :a ?y] [?x :b ?z])", "?y", "?x ?y", "0", "?x ?y"},
	{"(or [?x :a ?y] [?x :b ?y])", "", "?y ?x ?w", "0", "?x ?y"},
	{"(or (= ?x 1) (= ?x 2))", "", "", "unsafe", ""},
	{"(or (= ?x 1) (= ?x 2)) [?x _ _]", "", "", "1 0", "?x"},
	{"(or (= ?x 1) [?x _ _])", "", "", "unsafe", ""},
	{"(or (= ?x 1) [?x _ _])", "?x", "", "0", "?x"},
	{"(or [_ _ _] [?x _ _])", "", "", "0", ""},
	{"(or [_ _ _] [?x _ _])", "", "?x", "unsafe", ""},
	{"(or (+ ?x 1 -> ?y) (- ?x 1 -> ?y)) (= ?y 3) [?x _ _]", "", "", "2 0 1", "?x ?y"},
	{"(or (+ ?x 1 -> ?y) (- ?x 1 -> ?z)) [?x _ _]", "", "", "1 0", "?x"},
	{"(or (and [?x :a ?y] (= ?y ?z)) [?x _ ?z])", "", "", "unsafe", ""},
	{"(or (and [?x :a ?y] (= ?y ?z)) [?x _ ?z]) [?z _ _]", "", "", "1 0", "?z"},
	{"(or (and (= ?y 1) [?x :a ?y]))", "", "?y", "0", "?y"},
	{"(or (and (not [?x :a ?y]) [?x _ _]) [?x _ _]) (f ?x)", "", "", "0 1", "?x"},
	{"(or (and (not [?x :a ?y]) [?x _ _]) [?x _ ?y]) (f ?x)", "", "", "0 1", "?x"},
	{"(or (and (not [?x :a ?y]) [?x _ _]) [?x _ ?y]) (f ?x ?y)", "", "", "1 0", "?x ?y"},
	{"(or (or [?x :a 1] (or (and [?x :b ?y] (or (= ?y 1) (= ?y 2)))))) (= ?x 5)", "", "", "0 1", "?x"},
	{"(or (not [?x :a 1]) (not [?x :b 1]))", "", "", "0", ""},
	{"(or (not [?x :a 1]) (not [?x :b 1])) [?x _ _]", "", "", "1 0", "?x"},
	{"(or (not [?x :a 1]) (not [?x :b 1])) (= ?x 1)", "", "", "unsafe", ""},
	{"(or (not [?x :a 1]) (not [?x :b 1]))", "", "?x", "unsafe", ""},
	{"(not (or [?x :a 1] [?y :a 1])) (f ?x)", "", "", "1 0", "?x"},
	{"(not (or [?x :a 1] (= ?y 1))) (f ?x)", "", "", "unsafe", "?x"},
	{"(not (or (and [?z :a ?y] (= ?y 1)) (f ?x ?z)) (= ?z 1))", "", "", "0", ""},
	{"(not (or (and [?z :a ?y] (= ?y 1)) (f ?x)) (= ?z 1))", "", "", "unsafe", ""},
	// Ors within ors share with what stands beside them.
	{"(or (and [?x :a ?y] (or (and [?x :b ?z] (= ?z ?y)))))", "", "", "0", ""},
	{"(or (and [?x :a ?y] (or (and [?x :b ?z] (= ?z ?w)))))", "", "", "unsafe", ""},
	{"(or (and [?x :a ?y] (or (and [?x :b ?y] (= ?y 1)))))", "", "?x", "0", "?x"},
}

func TestOrderAndBound(t *testing.T) {
	for _, x := range lists {
		l, bound, outside := clauses(t, x.l), strings.Fields(x.bound), strings.Fields(x.outside)
		is, ofBound := Bound(l, bound, outside)
		places, ofOrder := Order(l, bound, outside)
		order, want := strings.Trim(fmt.Sprint(places), "[]"), api.OK
		if x.order == "unsafe" {
			order, want = order+"unsafe", api.ErrUnsafe
		}
		if order != x.order || ofOrder != want || ofBound != want || !slices.Equal(is, strings.Fields(x.is)) {
			t.Errorf("%s, %v bound, %v outside: Order %v, %v; Bound %v, %v; want %s; %s", x.l, bound, outside, places, ofOrder, is, ofBound, x.order, x.is)
		}
	}
}

// Clauses that may not be are taken by their kinds.
func TestClausesThatMayNotBe(t *testing.T) {
	x, y := api.Arg{Var: "?x"}, api.Arg{Var: "?y"}
	fact := api.Clause{Kind: api.ClauseFact, Args: []api.Arg{x}}
	test := api.Clause{Kind: api.ClauseTest, Args: []api.Arg{x}}
	for i, c := range []struct {
		l              []api.Clause
		bound, outside string
		order, is      string
	}{
		// Those of other kinds are always, and bind nothing, though what they have is shared.
		{[]api.Clause{{}}, "", "", "0", ""},
		{[]api.Clause{{Kind: 8, Args: []api.Arg{x}, Out: "?y", Kids: []api.Clause{fact}}, {Kind: -1, Args: []api.Arg{x}}}, "", "?x", "0 1", ""},
		{[]api.Clause{{Kind: 1<<32 + 1, Args: []api.Arg{x}}, test}, "", "", "unsafe", ""},
		{[]api.Clause{{Kind: api.ClauseNot, Kids: []api.Clause{fact}}, {Kind: 9, Out: "?x"}}, "", "", "unsafe", ""},
		{[]api.Clause{{Kind: api.ClauseNot, Kids: []api.Clause{{Kind: 9, Kids: []api.Clause{test}}}}}, "", "", "0", ""},
		// Variables are also those of Out and Kids.
		{[]api.Clause{{Kind: api.ClauseFact, Out: "?z", Kids: []api.Clause{test}}}, "", "", "0", "?x ?z"},
		{[]api.Clause{{Kind: api.ClauseTest, Out: "?z", Kids: []api.Clause{fact}}}, "?x", "", "unsafe", "?x"},
		{[]api.Clause{{Kind: api.ClauseTest, Out: "?z", Kids: []api.Clause{fact}}}, "?z", "", "unsafe", "?z"},
		{[]api.Clause{{Kind: api.ClauseTest, Out: "?z", Kids: []api.Clause{fact}}}, "?z ?x", "", "0", "?x ?z"},
		{[]api.Clause{{Kind: api.ClauseDo, Out: "?z", Kids: []api.Clause{test}}}, "", "", "0", "?z"},
		{[]api.Clause{{Kind: api.ClauseNot, Args: []api.Arg{x}, Out: "?y"}}, "", "?x ?z", "unsafe", ""},
		{[]api.Clause{{Kind: api.ClauseNot, Args: []api.Arg{x}, Out: "?y"}}, "?x", "?x ?z", "0", "?x"},
		{[]api.Clause{{Kind: api.ClauseNot, Args: []api.Arg{x}, Kids: []api.Clause{test}}}, "", "", "unsafe", ""},
		// An or without kids binds what it shares: no kid speaks against it.
		{[]api.Clause{{Kind: api.ClauseOr}, {Kind: api.ClauseNot}, {Kind: api.ClauseAnd}}, "", "", "0 1 2", ""},
		{[]api.Clause{{Kind: api.ClauseOr, Args: []api.Arg{x, y}}}, "", "?x", "0", "?x"},
		{[]api.Clause{{Kind: api.ClauseOr, Args: []api.Arg{x, y}, Kids: []api.Clause{fact}}}, "", "?x", "0", "?x"},
		{[]api.Clause{{Kind: api.ClauseOr, Args: []api.Arg{x, y}, Kids: []api.Clause{fact}}}, "", "?y", "unsafe", ""},
		// Ands as an or of themselves: their kids bind what they share.
		{[]api.Clause{{Kind: api.ClauseAnd, Kids: []api.Clause{test, fact}}}, "", "", "0", ""},
		{[]api.Clause{{Kind: api.ClauseAnd, Kids: []api.Clause{test, fact}}}, "", "?x", "0", "?x"},
		{[]api.Clause{{Kind: api.ClauseAnd, Args: []api.Arg{y}, Kids: []api.Clause{fact}}}, "", "?y", "unsafe", ""},
		{[]api.Clause{{Kind: api.ClauseAnd, Kids: []api.Clause{test}}}, "", "?x", "unsafe", ""},
		{[]api.Clause{{Kind: api.ClauseOr, Kids: []api.Clause{{Kind: api.ClauseAnd, Out: "?x"}}}}, "", "?x", "unsafe", ""},
		{[]api.Clause{{Kind: api.ClauseNot, Kids: []api.Clause{{Kind: api.ClauseAnd, Kids: []api.Clause{fact}}, test}}}, "", "", "0", ""},
		{[]api.Clause{{Kind: api.ClauseAnd, Kids: []api.Clause{{Kind: api.ClauseAnd, Kids: []api.Clause{fact}}, test}}, test}, "", "", "0 1", "?x"},
		// What is no variable is not bound by a clause; what is handed in as bound is.
		{[]api.Clause{{Kind: api.ClauseFact, Args: []api.Arg{{Var: "_"}, {Var: "x"}, {Var: "?"}, {Var: "?X"}, {}}, Out: "y"}, {Kind: api.ClauseDo, Out: "_"}, {Kind: api.ClauseDo}, {Kind: api.ClauseTest, Args: []api.Arg{{Var: "z"}}}}, "_ x", "? q", "0 1 2 3", "_ x"},
	} {
		is, ofBound := Bound(c.l, strings.Fields(c.bound), strings.Fields(c.outside))
		places, ofOrder := Order(c.l, strings.Fields(c.bound), strings.Fields(c.outside))
		order, want := strings.Trim(fmt.Sprint(places), "[]"), api.OK
		if c.order == "unsafe" {
			order, want = order+"unsafe", api.ErrUnsafe
		}
		if order != c.order || ofOrder != want || ofBound != want || !slices.Equal(is, strings.Fields(c.is)) {
			t.Errorf("%d: Order %v, %v; Bound %v, %v; want %s; %s", i, places, ofOrder, is, ofBound, c.order, c.is)
		}
	}
}

func TestShares(t *testing.T) {
	l := clauses(t, "[?a :a ?b] (< ?b ?c) (not [?c ?d ?e] (+ ?f 1 -> ?g)) (or [?g _ _] (and (f ?a ?h) (f ?i))) [?j ?j ?j] [_ _ _]")
	for at, want := range map[int]string{-1 << 63: "", -1: "", 0: "?a ?b", 1: "?b ?c", 2: "?c ?g", 3: "?a ?g", 4: "", 5: "", 6: "", 1<<63 - 1: ""} {
		if got := Shares(l, at, nil); !slices.Equal(got, strings.Fields(want)) {
			t.Errorf("Shares at %d: %v, want %s", at, got, want)
		}
	}
	outside := []string{"?z", "?j", "?e", "?j", "?a", "_", "", "?i", "?d"}
	for at, want := range map[int]string{-1: "", 0: "?a ?b", 1: "?b ?c", 2: "?c ?d ?e ?g", 3: "?a ?g ?i", 4: "?j", 5: "", 6: ""} {
		if got := Shares(l, at, outside); !slices.Equal(got, strings.Fields(want)) {
			t.Errorf("Shares at %d, with some outside: %v, want %s", at, got, want)
		}
	}
	if got := Shares(nil, 0, outside); len(got) != 0 {
		t.Errorf("Shares of no clauses: %v", got)
	}
	// Clauses that may not be share what they have, too.
	odd := []api.Clause{{Kind: 99, Out: "?b", Args: []api.Arg{{Var: "?a"}, {Var: "x"}}}, {Kids: []api.Clause{{Out: "?a"}, {Out: "x"}}}, {Kind: api.ClauseDo, Out: "?b"}}
	for at, want := range []string{"?a ?b", "?a", "?b"} {
		if got := Shares(odd, at, []string{"x"}); !slices.Equal(got, strings.Fields(want)) {
			t.Errorf("Shares at %d of clauses that may not be: %v, want %s", at, got, want)
		}
	}
}

func TestCalls(t *testing.T) {
	l := clauses(t, "(f ?x) [?x :a 1] (not (g ?x 1) (not (f _))) (or (h ?x) (and (= ?x 1) (i ?x) (or (j ?x)) (k ?x)) (not (l ?x))) (f ?x)")
	var names []string
	for _, c := range Calls(l) {
		names = append(names, c.Name)
	}
	if want := strings.Fields("f g f h i j k l f"); !slices.Equal(names, want) {
		t.Errorf("Calls: %v, want %v", names, want)
	}
	if got := Calls(l)[1]; !equalClauses([]api.Clause{got}, l[2].Kids[:1]) {
		t.Errorf("the second call: %v", got)
	}
	if got := Calls(clauses(t, "[?x :a 1] (= ?x 1) (not [_ _ _])")); len(got) != 0 || len(Calls(nil)) != 0 {
		t.Errorf("Calls where there are none: %v", got)
	}
	// A call that may not be is told with all that it has, and ahead of what stands within it.
	inner := api.Clause{Kind: api.ClauseCall, Name: "B", Kids: []api.Clause{{Kind: api.ClauseCall}}}
	outer := api.Clause{Kind: api.ClauseCall, Out: "?o", Args: []api.Arg{{}, {Var: "?"}}, Kids: []api.Clause{{Kind: 77, Kids: []api.Clause{inner}}, {Kind: 4, Name: "c"}}}
	want := []api.Clause{outer, inner, inner.Kids[0], {Kind: 4, Name: "c"}, inner, inner.Kids[0]}
	if got := Calls([]api.Clause{{Kind: api.ClauseFact, Kids: []api.Clause{outer}}, inner}); !equalClauses(got, want) {
		t.Errorf("Calls of clauses that may not be: %v", got)
	}
}

func TestHangs(t *testing.T) {
	for _, x := range []struct{ body, all, not string }{
		{"[?x :a 1]", "", ""},
		{"(f ?x)", "f", ""},
		{"(not (f ?x))", "f", "f"},
		{"(b ?x) (a ?x) (b ?x) (c ?x)", "a b c", ""},
		{"(z ?x) (not (b ?x) (not (a ?x))) (b ?x) (not (b ?x))", "a b z", "a b"},
		{"(or (f ?x) (and (g ?x) (not (h ?x) (or (and (i ?x)) (j ?x)))) (not (f ?x)))", "f g h i j", "f h i j"},
		{"(or (and (not [?x :a 1]) (k ?x))) (aa ?x) (a ?x) (! ?x) (zz ?x)", "! a aa k zz", ""},
	} {
		all, not := Hangs(api.Rule{Name: "f", Args: []string{"?x"}, Body: clauses(t, x.body)})
		if !slices.Equal(all, strings.Fields(x.all)) || !slices.Equal(not, strings.Fields(x.not)) {
			t.Errorf("Hangs of %s: %v, %v", x.body, all, not)
		}
	}
	// Rules that may not be hang on names, too.
	all, not := Hangs(api.Rule{Body: []api.Clause{{Kind: api.ClauseNot, Kids: []api.Clause{{Kind: 99, Kids: []api.Clause{{Kind: api.ClauseCall, Name: "B"}, {Kind: api.ClauseNot, Name: "no"}}}}}, {Kind: api.ClauseCall, Kids: []api.Clause{{Kind: api.ClauseCall, Name: "?"}}}}})
	if !slices.Equal(all, []string{"", "?", "B"}) || !slices.Equal(not, []string{"B"}) {
		t.Errorf("Hangs of a rule that may not be: %q, %q", all, not)
	}
}

// What tells calls says of each whether it stands within a not, and stops when no more are wanted.
func TestToldStops(t *testing.T) {
	l := clauses(t, "(a _) (not (b _) (or (and (c _) (d _)))) (or (e _) (not (not (f _)))) (g _)")
	const want = "a b! c! d! e f! g "
	for most := 1; most <= 7; most++ {
		got, n := "", 0
		for c, not := range told(l) {
			if got += c.Name; not {
				got += "!"
			}
			got += " "
			if n++; n == most {
				break
			}
		}
		if n != most || !strings.HasPrefix(want, got) {
			t.Errorf("the first %d calls: %s", most, got)
		}
	}
}
