package rule

import (
	"slices"
	"strconv"
	"strings"
	"testing"

	"daybook/api"
)

// values are some of all kinds that may be.
func values() []api.Value {
	return []api.Value{
		{Kind: api.KInt}, {Kind: api.KInt, N: api.MinTime}, {Kind: api.KBool}, {Kind: api.KBool, N: 1}, str(""), str("a\"b\n;)\xff ?x"), str(strings.Repeat("x", api.MaxText)), {Kind: api.KBytes}, {Kind: api.KBytes, S: "\x00\xff"},
		ref(0), ref(api.MaxEntity - 1), {Kind: api.KTime}, {Kind: api.KTime, N: api.MaxTime}, word("a"), word("a/b.c-d_9"), word(strings.Repeat("z", api.MaxWord)),
	}
}

// wrongArgs stand nowhere.
func wrongArgs() []api.Arg {
	l := []api.Arg{
		{}, {V: api.Value{N: 1}}, {V: api.Value{S: "a"}}, {V: api.Value{Kind: 8}}, {V: api.Value{Kind: -1}}, {V: api.Value{Kind: api.KInt, S: "a"}}, {V: api.Value{Kind: api.KBool, N: 2}}, {V: ref(-1)}, {V: ref(api.MaxEntity)}, {V: word("A")}, {V: word("")}, {V: api.Value{Kind: api.KWord, S: "a", N: 1}}, {V: str(strings.Repeat("x", api.MaxText+1))}, {V: api.Value{Kind: api.KRef, S: "a"}},
		{Var: "?x", V: ref(1)}, {Var: "?x", V: api.Value{N: 1}}, {Var: "?x", V: api.Value{S: "a"}}, {Var: "?x", V: word("a")}, {Var: "_", V: api.Value{Kind: api.KInt, N: 1}}, {Var: "_", V: api.Value{N: 1}},
	}
	for _, s := range wrongVariables() {
		if s != "" && s != "_" {
			l = append(l, api.Arg{Var: s})
		}
	}
	return l
}

func wrongVariables() []string {
	return []string{"", "_", "?", "x", "__", "->", "?X", "?x y", "?x)", ":x", "5", "true", "?é", "?" + strings.Repeat("a", api.MaxName)}
}

func predicates() []string {
	return []string{"=", "!=", "<", "<=", ">", ">=", "begins", "ends", "has", "kind"}
}

// functions are the names of those that take so many values.
func functions(n int) []string {
	switch n {
	case 1:
		return []string{"neg", "abs", "len", "text", "value", "number", "time", "name"}
	case 2:
		return []string{"+", "-", "*", "/", "mod", "min", "max", "cat"}
	case 3:
		return []string{"sub"}
	}
	return nil
}

func allFunctions() []string { return slices.Concat(functions(1), functions(2), functions(3)) }

// taken are names that are no predicate, no function, and no rule's.
func taken() []string {
	return []string{"_", "->", "not", "or", "and", "rule", "query", "find", "in", "with", "where", "count", "distinct", "sum", "least", "greatest"}
}

// noNames are no names at all, or such as only variables could be.
func noNames() []string {
	return []string{"", "A", "5", "-5", "+5", "!5", "true", "false", "a b", "a)", "a;", "\"a\"", ":a", "@1", "#", "é", "a\n", strings.Repeat("a", api.MaxName+1), "?", "?x", "?a/b"}
}

func ruleNames() []string {
	return []string{"a", "!", "!=!", "%", "&.", ".", "<>", "=>", "->a", "__", "a?", "==", "+-", "--", "nots", "tru", "trues", "counts", "any", "sum2", "equal", "finds", strings.Repeat("a", api.MaxName)}
}

// some are so many arguments that stand anywhere.
func some(n int) []api.Arg { return slices.Repeat(args([]any{"?x", 1}), 9)[:n] }

// named are clauses of a kind, for each name, of each of some arguments.
func named(kind int, out string, names []string, lists ...[]api.Arg) []api.Clause {
	var l []api.Clause
	for _, name := range names {
		for _, list := range lists {
			l = append(l, api.Clause{Kind: kind, Name: name, Args: list, Out: out})
		}
	}
	return l
}

// put is a list of arguments with another one at a place.
func put(l []api.Arg, at int, a api.Arg) []api.Arg {
	l = slices.Clone(l)
	l[at] = a
	return l
}

func good() []api.Clause {
	var l []api.Clause
	five := args([]any{ref(1), word("a"), 1, 2, true})
	for n := 3; n <= 5; n++ {
		l = append(l, api.Clause{Kind: api.ClauseFact, Args: five[:n]})
		for at := range n {
			l = append(l, api.Clause{Kind: api.ClauseFact, Args: put(five[:n], at, arg("?x"))}, api.Clause{Kind: api.ClauseFact, Args: put(five[:n], at, arg("_"))})
		}
		for _, v := range values() {
			l = append(l, api.Clause{Kind: api.ClauseFact, Args: put(five[:n], 2, arg(v))})
		}
	}
	l = append(l, named(api.ClauseTest, "", predicates(), some(2))...)
	for n := 1; n <= 3; n++ {
		l = append(l, named(api.ClauseDo, "?y", functions(n), some(n))...)
	}
	for n := 1; n <= api.MaxArgs; n++ {
		l = append(l, named(api.ClauseCall, "", ruleNames(), some(n))...)
	}
	for _, v := range values() {
		l = append(l, test("=", v, v), do("+", "?x", v, v), do("neg", "?"+strings.Repeat("a", api.MaxName-1), v), call("a", v), call("a", "_", v, "?x"))
	}
	a, b := fact("?x", "_", "_"), call("a", "?x")
	return append(l, not(a), not(a, b, a), or(a), or(a, b), or(and(a)), or(and(a, b), and(b), a), not(not(a)), or(or(a)), or(or(and(a))), or(and(or(and(a)))), or(and(not(or(and(a))))), not(or(and(a), b)),
		api.Clause{Kind: api.ClauseNot, Args: []api.Arg{}, Kids: where(api.Clause{Kind: api.ClauseFact, Args: args([]any{"_", "_", "_"}), Kids: []api.Clause{}})})
}

// badOfNames are clauses with a name, or with arguments, that may not be.
func badOfNames() []api.Clause {
	var l []api.Clause
	calls := slices.Concat(predicates(), allFunctions(), taken(), noNames())
	tests := slices.Concat(ruleNames(), allFunctions(), taken(), noNames())
	does := slices.Concat(ruleNames(), predicates(), taken(), noNames())
	for n := range 5 {
		l = append(l, named(api.ClauseTest, "", tests, some(n))...)
		l = append(l, named(api.ClauseDo, "?y", does, some(n))...)
		l = append(l, named(api.ClauseCall, "", calls, some(n))...)
		if n != 2 {
			l = append(l, named(api.ClauseTest, "", predicates(), some(n))...)
		}
		for k := 1; k <= 3; k++ {
			if n != k {
				l = append(l, named(api.ClauseDo, "?y", functions(k), some(n))...)
			}
		}
	}
	l = append(l, named(api.ClauseCall, "", ruleNames(), nil, some(17), some(18))...)
	for _, a := range append(wrongArgs(), arg("_")) {
		l = append(l, named(api.ClauseTest, "", predicates(), put(some(2), 0, a), put(some(2), 1, a))...)
		l = append(l, named(api.ClauseDo, "?y", functions(1), []api.Arg{a})...)
		l = append(l, named(api.ClauseDo, "?y", functions(2), put(some(2), 0, a), put(some(2), 1, a))...)
		l = append(l, named(api.ClauseDo, "?y", functions(3), put(some(3), 0, a), put(some(3), 1, a), put(some(3), 2, a))...)
	}
	for _, a := range wrongArgs() {
		l = append(l, named(api.ClauseCall, "", ruleNames(), []api.Arg{a}, put(some(3), 1, a), put(some(16), 15, a))...)
	}
	for _, s := range wrongVariables() {
		l = append(l, named(api.ClauseDo, s, functions(2), some(2))...)
	}
	return l
}

// badFacts are ClauseFacts that may not be.
func badFacts() []api.Clause {
	var l []api.Clause
	five := args([]any{ref(1), word("a"), 1, 2, true})
	kinds := []int{api.KRef, api.KWord, 0, api.KInt, api.KBool}
	for n := range 3 {
		l = append(l, api.Clause{Kind: api.ClauseFact, Args: five[:n]})
	}
	l = append(l, api.Clause{Kind: api.ClauseFact, Args: append(five, arg("_"))}, api.Clause{Kind: api.ClauseFact, Args: append(five, five...)})
	for n := 3; n <= 5; n++ {
		for at := range n {
			for _, v := range values() {
				if v.Kind != kinds[at] && at != 2 {
					l = append(l, api.Clause{Kind: api.ClauseFact, Args: put(five[:n], at, arg(v))})
				}
			}
			for _, a := range wrongArgs() {
				l = append(l, api.Clause{Kind: api.ClauseFact, Args: put(five[:n], at, a)})
			}
		}
	}
	return l
}

// bad are clauses that may not be: one thing of each is wrong.
func bad() []api.Clause {
	l := slices.Concat(badOfNames(), badFacts())
	a := fact("?x", "_", "_")
	// What is not named.
	for _, c := range []api.Clause{a, test("<", 1, 2), do("+", "?x", 1, 2), call("a", 1), not(a), or(a)} {
		if c.Name == "" {
			for _, name := range []string{"a", "=", "+", "not", "or", "and", "?x", "_"} {
				named := c
				named.Name = name
				l = append(l, named)
			}
		}
		if c.Out == "" {
			for _, out := range []string{"?x", "_", "a"} {
				turned := c
				turned.Out = out
				l = append(l, turned)
			}
		}
		if len(c.Args) == 0 {
			c.Args = some(1)
			l = append(l, c)
			c.Args = args([]any{ref(1), word("a"), 1})
		} else {
			c.Kids = where(a)
		}
		l = append(l, c)
		for _, kind := range []int{-1, 0, 8, 1 << 33, 1<<32 + 1} {
			c.Kind = kind
			l = append(l, c)
		}
	}
	for _, kind := range []int{-1, 0, 1, 2, 3, 4, 5, 6, 7, 8} {
		l = append(l, api.Clause{Kind: kind})
	}
	l = append(l, not(), or(), and(), and(a), and(a, a), not(and(a)), not(a, and(a)), or(and()), or(a, and()), or(and(and(a))), or(and(a, and(a))), not(or(and(a)), and(a)), or(not(and(a))), or(and(not(and(a)))))
	for _, c := range slices.Clone(l[:3]) {
		l = append(l, not(c), not(a, c), not(c, a), or(c), or(a, c), or(and(c)), or(and(a), and(a, c)), not(not(or(and(not(c))))))
	}
	for _, c := range slices.Clone(l[len(l)-50:]) {
		l = append(l, not(c), not(a, c), or(and(c, a)))
		if c.Kind != api.ClauseAnd || len(c.Kids) == 0 {
			l = append(l, or(c), or(a, c))
		}
	}
	return l
}

// around are a query's ways to have a clause.
func around(c api.Clause) []api.Query {
	a := fact("?x", "_", "_")
	return []api.Query{simple(c), simple(a, c), simple(c, a), ruled(rule("a", "?x", c)), ruled(rule("a", "?x", a), rule("b", "?x", a, c))}
}

// accepted asks that Check takes a query, and that Parse of Print is it.
func accepted(t *testing.T, q api.Query) {
	t.Helper()
	s, pe := Print(q)
	back, line, column, e := Parse(s)
	if ce := Check(q); ce != api.OK || pe != api.OK || e != api.OK || line != 0 || column != 0 || !equal(back, q) || !Same(q, back) || !Same(q, q) {
		t.Fatalf("Check(%s) = %v, Print = %.300q, %v, Parse of it %s, %d, %d, %v", brief(q), ce, s, pe, brief(back), line, column, e)
	}
}

// rejected asks that nothing takes a query.
func rejected(t *testing.T, q api.Query) {
	t.Helper()
	e := Check(q)
	s, pe := Print(q)
	if e != api.ErrQuery || s != "" || pe != api.ErrArg || Same(q, q) || Same(q, simple(call("a", 1))) || Same(simple(call("a", 1)), q) {
		t.Fatalf("Check(%s) = %v, Print = %.300q, %v", brief(q), e, s, pe)
	}
}

func TestCheckOfClauses(t *testing.T) {
	for _, c := range good() {
		for _, q := range around(c) {
			accepted(t, q)
		}
		accepted(t, simple(not(c), or(c, and(c, c)), or(and(not(or(c))))))
	}
	for _, c := range bad() {
		for _, q := range around(c) {
			rejected(t, q)
		}
	}
}

func TestCheckOfRules(t *testing.T) {
	a := fact("?x", "_", "_")
	for _, name := range ruleNames() {
		accepted(t, ruled(rule(name, "?x", a)))
	}
	for _, name := range slices.Concat(predicates(), allFunctions(), taken(), noNames()) {
		rejected(t, ruled(rule(name, "?x", a)))
		rejected(t, ruled(rule("a", "?x", a), rule(name, "?x", a)))
	}
	sixteen := strings.Fields("?a ?b ?c ?d ?e ?f ?g ?h ?i ?j ?k ?l ?m ?n ?o ?p")
	for n := 1; n <= api.MaxArgs; n++ {
		accepted(t, ruled(api.Rule{Name: "a", Args: sixteen[:n], Body: where(a)}))
	}
	for _, names := range [][]string{nil, {}, append(sixteen, "?q"), {"?x", "?x"}, {"?x", "?y", "?x"}, append(sixteen[:15:15], "?a"), append(sixteen, "?a")} {
		rejected(t, ruled(api.Rule{Name: "a", Args: names, Body: where(a)}))
	}
	for _, s := range wrongVariables() {
		rejected(t, ruled(api.Rule{Name: "a", Args: []string{s}, Body: where(a)}))
		rejected(t, ruled(api.Rule{Name: "a", Args: []string{"?x", s}, Body: where(a)}))
	}
	for _, r := range []api.Rule{{}, rule("a", "?x"), {Name: "a", Args: sixteen[:1], Body: where()}, rule("a", "?x", and(a)), rule("a", "?x", a, and(a)), rule("a", "?x", api.Clause{})} {
		rejected(t, ruled(r))
		rejected(t, ruled(rule("a", "?x", a), r, rule("b", "?x", a)))
	}
	accepted(t, ruled(slices.Repeat([]api.Rule{rule("a", "?x", a)}, api.MaxRules)...))
	rejected(t, ruled(slices.Repeat([]api.Rule{rule("a", "?x", a)}, api.MaxRules+1)...))
	rejected(t, ruled(make([]api.Rule, api.MaxRules)...))
	rejected(t, ruled(make([]api.Rule, 1000000)...))
}

func TestCheckOfTheRest(t *testing.T) {
	a := where(fact("?x", "_", "_"))
	rejected(t, api.Query{})
	rejected(t, api.Query{Find: finds("?x")})
	rejected(t, api.Query{Where: a})
	rejected(t, api.Query{Find: []api.Find{}, Where: a})
	rejected(t, api.Query{Find: finds("?x"), Where: where()})
	rejected(t, api.Query{Find: finds("?x"), Where: where(and(a...))})
	for op := range 6 {
		find := api.Find{Op: op, Var: "?y"}
		if op == 1 {
			rejected(t, api.Query{Find: []api.Find{find}, Where: a})
			find.Var = ""
		}
		accepted(t, api.Query{Find: []api.Find{find}, Where: a})
		accepted(t, api.Query{Find: []api.Find{find, {Var: "?x"}, find, find}, Where: a})
		for _, s := range wrongVariables() {
			if find.Var = s; op == 1 && s == "" {
				continue
			}
			rejected(t, api.Query{Find: []api.Find{find}, Where: a})
			rejected(t, api.Query{Find: []api.Find{{Var: "?x"}, find}, Where: a})
		}
	}
	for _, op := range []int{-1, 6, 7, 1 << 40, -1 << 63, 1<<63 - 1, 1<<32 + 2} {
		rejected(t, api.Query{Find: []api.Find{{Op: op, Var: "?x"}}, Where: a})
		rejected(t, api.Query{Find: []api.Find{{Var: "?x"}, {Op: op}}, Where: a})
	}
	accepted(t, api.Query{Find: finds("?x"), In: []string{}, With: []string{}, Rules: []api.Rule{}, Where: a})
	for _, names := range [][]string{{"?x"}, {"?y", "?x", "?a"}, {"?b", "?a"}} {
		accepted(t, api.Query{Find: finds("?x"), In: names, Where: a})
		accepted(t, api.Query{Find: finds("?x"), With: names, Where: a})
		// One of In may be one of With, too: in each of them it is there once.
		accepted(t, api.Query{Find: finds("?x"), In: names, With: names, Where: a})
	}
	wrong := [][]string{{"?x", "?x"}, {"?x", "?y", "?x"}, {"?y", "?x", "?x"}}
	for _, s := range wrongVariables() {
		wrong = append(wrong, []string{s}, []string{"?x", s}, []string{s, "?x"})
	}
	for _, names := range wrong {
		rejected(t, api.Query{Find: finds("?x"), In: names, Where: a})
		rejected(t, api.Query{Find: finds("?x"), With: names, Where: a})
		rejected(t, api.Query{Find: finds("?x"), In: []string{"?x"}, With: names, Where: a})
	}
}

// variables are so many, from a number on.
func variables(from, n int) []string {
	var l []string
	for i := range n {
		l = append(l, "?"+strconv.Itoa(from+i))
	}
	return l
}

// using are calls that have some variables, each twice.
func using(names []string) []api.Clause {
	var l []api.Clause
	for _, s := range names {
		l = append(l, not(call("a", s, "_", s, 1)))
	}
	return l
}

func TestCheckOfManyVariables(t *testing.T) {
	within := func(names []string) api.Clause { return not(or(and(using(names)...), call("a", 1))) }
	outs := func(names []string) []api.Clause {
		var l []api.Clause
		for _, s := range names {
			l = append(l, do("neg", s, 1))
		}
		return l
	}
	both := finds(variables(5, 10)...)
	for i := range both {
		both[i].Op = 2 + i%4
	}
	for _, x := range []struct {
		n int
		q api.Query
	}{
		{30, api.Query{Find: finds("?0"), Where: using(variables(0, 30))}}, {31, api.Query{Find: finds("?0"), Where: using(variables(0, 31))}}, {31, api.Query{Find: finds("?30"), Where: using(variables(0, 30))}},
		{30, api.Query{Find: finds("?0"), Where: outs(variables(0, 30))}}, {31, api.Query{Find: finds("?0"), Where: outs(variables(0, 31))}},
		{30, api.Query{Find: finds("?29"), Where: where(within(variables(0, 29)))}}, {31, api.Query{Find: finds("?29"), Where: where(within(variables(0, 29)), fact("_", "_", "?30"))}},
		{30, api.Query{Find: finds(variables(0, 30)...), Where: using(variables(7, 9))}}, {31, api.Query{Find: finds(variables(0, 31)...), Where: using(variables(7, 9))}}, {31, api.Query{Find: finds(variables(0, 31)...), Where: where(call("a", "_"))}},
		{30, api.Query{Find: finds("?0"), In: variables(0, 30), Where: where(call("a", 1))}}, {31, api.Query{Find: finds("?0"), In: variables(0, 31), Where: where(call("a", 1))}}, {31, api.Query{Find: finds("?0"), In: variables(1, 30), Where: where(call("a", 1))}},
		{30, api.Query{Find: finds("?0"), With: variables(0, 30), Where: where(call("a", 1))}}, {31, api.Query{Find: []api.Find{{Op: 1}}, With: variables(0, 31), Where: where(call("a", 1))}}, {30, api.Query{Find: []api.Find{{Op: 1}, {Op: 1}}, With: variables(0, 30), Where: where(call("_a", "_"))}},
		{30, api.Query{Find: both, In: variables(0, 20), With: variables(10, 20), Where: using(variables(3, 20))}}, {31, api.Query{Find: both, In: variables(0, 20), With: variables(10, 20), Where: using(variables(3, 28))}}, {31, api.Query{Find: both, In: variables(15, 15), With: variables(6, 20), Where: using(variables(30, 6))}}, {30, api.Query{Find: both, In: variables(15, 15), With: variables(6, 20), Where: using(variables(30, 5))}},
		{30, ruled(api.Rule{Name: "a", Args: variables(0, 16), Body: using(variables(16, 14))})}, {31, ruled(api.Rule{Name: "a", Args: variables(0, 16), Body: using(variables(16, 15))})}, {30, ruled(rule("a", "?0", using(variables(0, 30))...))}, {31, ruled(rule("a", "?0", using(variables(1, 30))...))}, {31, ruled(rule("a", "?x", call("b", 1)), rule("a", "?0", within(variables(1, 30))))},
		// Each rule, and the rest, by itself.
		{30, api.Query{Rules: []api.Rule{rule("a", "?0", using(variables(0, 30))...), rule("a", "?30", using(variables(30, 30))...), rule("b", "?0", outs(variables(0, 30))...)}, Find: finds("?60"), Where: using(variables(60, 30))}},
	} {
		if x.n > api.MaxVars {
			rejected(t, x.q)
		} else {
			accepted(t, x.q)
		}
	}
}

// nested is a clause that stands within so many others.
func nested(n int) api.Clause {
	c := fact("?x", "_", "_")
	for i := range n {
		switch i % 3 {
		case 0:
			c = not(c)
		case 1:
			c = or(c)
		case 2:
			c = or(c, call("a", 1))
		}
	}
	return c
}

// What may be is taken as long as a text takes its nodes.
func TestCheckOfDeepAndGreat(t *testing.T) {
	// Brackets: query, where, 47 around, and the fact; rule, 48 around, and the fact.
	accepted(t, simple(nested(47)))
	rejected(t, simple(nested(48)))
	accepted(t, ruled(rule("a", "?x", nested(48))))
	rejected(t, ruled(rule("a", "?x", nested(49))))
	rejected(t, simple(nested(100)))
	rejected(t, simple(nested(4000)))
	rejected(t, simple(nested(60000)))
	// A query of calls has 7 nodes beside theirs: of 5000 there are 4993 left, three for each call of one argument.
	calls := slices.Repeat(where(call("a", 1)), 1663)
	accepted(t, simple(append(calls, call("a", 1, 1))...))
	rejected(t, simple(append(calls, call("a", 1, 1, 1))...))
	rejected(t, simple(append(calls, calls[:2]...)...))
	rejected(t, simple(slices.Repeat(calls, 1000)...))
	// A rule has 5 beside its calls, and a query of one call has 10.
	accepted(t, ruled(rule("a", "?x", append(calls[:1660:1660], call("a", 1, 1, 1))...)))
	rejected(t, ruled(rule("a", "?x", append(calls[:1660:1660], call("a", 1, 1, 1, 1))...)))
	accepted(t, ruled(rule("a", "?x", calls[:828]...), rule("a", "?x", append(calls[:830:830], call("a", 1, 1, 1, 1))...)))
	rejected(t, ruled(rule("a", "?x", calls[:828]...), rule("a", "?x", append(calls[:830:830], call("a", 1, 1, 1, 1, 1))...)))
	// With In of two variables there are 13 beside the elements of Find.
	for n, take := range map[int]func(*testing.T, api.Query){4987: accepted, 4988: rejected, 100000: rejected} {
		take(t, api.Query{Find: finds(slices.Repeat([]string{"?x"}, n)...), In: []string{"?a", "?b"}, Where: where(call("a", 1))})
	}
}

// Clauses that stand within themselves, or that are shared by very many, are none, and found out in no time.
func TestCheckOfClausesWithoutAnEnd(t *testing.T) {
	for _, kind := range []int{api.ClauseNot, api.ClauseOr, api.ClauseAnd, api.ClauseFact, 0} {
		l := where(api.Clause{Kind: kind}, call("a", "?x"))
		l[0].Kids = l
		for _, q := range append(around(l[0]), simple(l...), simple(or(l...)), ruled(rule("a", "?x", l...))) {
			rejected(t, q)
		}
	}
	wide := where(call("a", "?x"))
	for range 45 {
		wide = where(not(wide...), or(wide...))
	}
	rejected(t, simple(wide...))
	rejected(t, ruled(rule("a", "?x", wide...)))
	rejected(t, ruled(slices.Repeat([]api.Rule{rule("a", "?x", slices.Repeat(where(call("a", some(16)[0].Var)), 4000)...)}, 200)...))
	rejected(t, simple(api.Clause{Kind: api.ClauseCall, Name: "a", Args: make([]api.Arg, 10000000)}))
}

// By the words of layer 5 this is a name, though as text it is an instant: it may be a rule's.
func TestNameLikeAnInstant(t *testing.T) {
	q := ruled(rule("!-5", "?x", call("!-5", "?x")))
	const want = "(rule (!-5 ?x) (!-5 ?x))\n(query (find ?x) (where (a ?x)))\n"
	if s, e := Print(q); e != api.OK || s != want || Check(q) != api.OK || !Same(q, q) {
		t.Errorf("Print(%v) = %q, %v", q, s, e)
	}
	refused(t, want, api.ErrQuery, 1, 1)
}
