package rule

import (
	"fmt"
	"slices"
	"strings"
	"testing"

	"daybook/api"
)

// arg is a variable, or any, if it is handed a name; else a value.
func arg(x any) api.Arg {
	switch x := x.(type) {
	case string:
		return api.Arg{Var: x}
	case int:
		return api.Arg{V: api.Value{Kind: api.KInt, N: int64(x)}}
	case bool:
		if x {
			return api.Arg{V: api.Value{Kind: api.KBool, N: 1}}
		}
		return api.Arg{V: api.Value{Kind: api.KBool}}
	}
	return api.Arg{V: x.(api.Value)}
}

func ref(n int64) api.Value { return api.Value{Kind: api.KRef, N: n} }

func word(s string) api.Value { return api.Value{Kind: api.KWord, S: s} }

func str(s string) api.Value { return api.Value{Kind: api.KText, S: s} }

func args(l []any) []api.Arg {
	var all []api.Arg
	for _, x := range l {
		all = append(all, arg(x))
	}
	return all
}

func fact(l ...any) api.Clause { return api.Clause{Kind: api.ClauseFact, Args: args(l)} }

func test(name string, l ...any) api.Clause {
	return api.Clause{Kind: api.ClauseTest, Name: name, Args: args(l)}
}

// do has its Out ahead of its Args.
func do(name, out string, l ...any) api.Clause {
	return api.Clause{Kind: api.ClauseDo, Name: name, Args: args(l), Out: out}
}

func call(name string, l ...any) api.Clause {
	return api.Clause{Kind: api.ClauseCall, Name: name, Args: args(l)}
}

func not(kids ...api.Clause) api.Clause { return api.Clause{Kind: api.ClauseNot, Kids: kids} }

func or(kids ...api.Clause) api.Clause { return api.Clause{Kind: api.ClauseOr, Kids: kids} }

func and(kids ...api.Clause) api.Clause { return api.Clause{Kind: api.ClauseAnd, Kids: kids} }

func rule(name, names string, body ...api.Clause) api.Rule {
	return api.Rule{Name: name, Args: strings.Fields(names), Body: body}
}

func finds(names ...string) []api.Find {
	var l []api.Find
	for _, s := range names {
		l = append(l, api.Find{Var: s})
	}
	return l
}

func where(l ...api.Clause) []api.Clause { return l }

// simple is a query that finds ?x, where something holds.
func simple(l ...api.Clause) api.Query { return api.Query{Find: finds("?x"), Where: l} }

// ruled is a query with rules, which finds ?x.
func ruled(l ...api.Rule) api.Query {
	q := simple(call("a", "?x"))
	q.Rules = l
	return q
}

func equalClauses(a, b []api.Clause) bool {
	return slices.EqualFunc(a, b, func(c, d api.Clause) bool {
		return c.Kind == d.Kind && c.Name == d.Name && c.Out == d.Out && slices.Equal(c.Args, d.Args) && equalClauses(c.Kids, d.Kids)
	})
}

// equal holds queries against each other, whether they may be or not.
func equal(a, b api.Query) bool {
	return slices.EqualFunc(a.Rules, b.Rules, func(r, s api.Rule) bool {
		return r.Name == s.Name && slices.Equal(r.Args, s.Args) && equalClauses(r.Body, s.Body)
	}) && slices.Equal(a.Find, b.Find) && slices.Equal(a.In, b.In) && slices.Equal(a.With, b.With) && equalClauses(a.Where, b.Where)
}

// brief tells how something begins.
func brief(x any) string { return fmt.Sprintf("%.300s", fmt.Sprint(x)) }

// The examples of the chapter that may be, and what each is.
func chapter() map[string]api.Query {
	return map[string]api.Query{
		"(rule (above ?x ?y) [?x :part/of ?y])\n(query (find ?x) (where (above ?x @7)))\n": {
			Rules: []api.Rule{rule("above", "?x ?y", fact("?x", word("part/of"), "?y"))},
			Find:  finds("?x"),
			Where: where(call("above", "?x", ref(7))),
		},
		"(query (find ?x (sum ?n)) (with ?y) (where [?x :n ?n] [?y :of ?x] (not (< ?n 0))))\n": {
			Find:  []api.Find{{Var: "?x"}, {Op: 3, Var: "?n"}},
			With:  []string{"?y"},
			Where: where(fact("?x", word("n"), "?n"), fact("?y", word("of"), "?x"), not(test("<", "?n", 0))),
		},
		"(query (find (count)) (in ?a) (where [_ :n ?n] (+ ?n ?a -> ?m) (or (= ?m 5) (and (< ?m 0) [?m :n _]))))\n": {
			Find:  []api.Find{{Op: 1}},
			In:    []string{"?a"},
			Where: where(fact("_", word("n"), "?n"), do("+", "?m", "?n", "?a"), or(test("=", "?m", 5), and(test("<", "?m", 0), fact("?m", word("n"), "_")))),
		},
	}
}

// more are other texts, as they are printed, with what each is.
func more() map[string]api.Query {
	return map[string]api.Query{
		// Facts of three, four and five, of variables, any, and values.
		"(query (find ?x) (where [?x ?y ?z] [_ _ _ _] [?x _ ?y _ ?z]))\n":                             simple(fact("?x", "?y", "?z"), fact("_", "_", "_", "_"), fact("?x", "_", "?y", "_", "?z")),
		"(query (find ?x) (where [@0 :a/b \"c d)\" 5 true] [@9007199254740991 :a #00ff -1 false]))\n": simple(fact(ref(0), word("a/b"), str("c d)"), 5, true), fact(ref(api.MaxEntity-1), word("a"), api.Value{Kind: api.KBytes, S: "\x00\xff"}, -1, false)),
		"(query (find ?x) (where [?x :a 1] [?x :a true] [?x :a !5] [?x :a @1] [?x :a :a]))\n":         simple(fact("?x", word("a"), 1), fact("?x", word("a"), true), fact("?x", word("a"), api.Value{Kind: api.KTime, N: 5}), fact("?x", word("a"), ref(1)), fact("?x", word("a"), word("a"))),
		// Predicates, functions, and calls, of values too.
		"(query (find ?x) (where (= 1 \"a\") (!= ?x ?x) (begins :a :b) (kind ?x 1)))\n":                                              simple(test("=", 1, str("a")), test("!=", "?x", "?x"), test("begins", word("a"), word("b")), test("kind", "?x", 1)),
		"(query (find ?x) (where (neg 1 -> ?x) (sub \"abc\" ?y 2 -> ?x) (text @1 -> ?z) (- ?x 1 -> ?x)))\n":                          simple(do("neg", "?x", 1), do("sub", "?x", str("abc"), "?y", 2), do("text", "?z", ref(1)), do("-", "?x", "?x", 1)),
		"(query (find ?x) (where (a _ _ ?x ?x 1) (=> !0) (!not ?x)))\n":                                                              simple(call("a", "_", "_", "?x", "?x", 1), call("=>", api.Value{Kind: api.KTime}), call("!not", "?x")),
		"(query (find ?x) (where (not (or (not (a ?x)))) (or (or (and (or (and (a ?x)))))) (or (and (not (a _)) (a ?x)) (a ?x))))\n": simple(not(or(not(call("a", "?x")))), or(or(and(or(and(call("a", "?x")))))), or(and(not(call("a", "_")), call("a", "?x")), call("a", "?x"))),
		// Elements of Find, as often as one likes; In and With, of which one may be in the other.
		"(query (find (count) (distinct ?x) (sum ?x) (least ?x) (greatest ?x) ?x ?x (count)) (in ?y ?x) (with ?x ?z) (where (a 1)))\n": {
			Find:  []api.Find{{Op: 1}, {Op: 2, Var: "?x"}, {Op: 3, Var: "?x"}, {Op: 4, Var: "?x"}, {Op: 5, Var: "?x"}, {Var: "?x"}, {Var: "?x"}, {Op: 1}},
			In:    []string{"?y", "?x"},
			With:  []string{"?x", "?z"},
			Where: where(call("a", 1)),
		},
		// Rules of one name, and such as are not called.
		"(rule (a ?x) (b ?x) (c ?y))\n(rule (a ?x ?y) (not (a ?x)))\n(rule (a ?x) (b ?x) (c ?y))\n(query (find ?x) (where (a ?x)))\n": ruled(rule("a", "?x", call("b", "?x"), call("c", "?y")), rule("a", "?x ?y", not(call("a", "?x"))), rule("a", "?x", call("b", "?x"), call("c", "?y"))),
	}
}

func TestParse(t *testing.T) {
	for _, texts := range []map[string]api.Query{chapter(), more()} {
		for s, want := range texts {
			if q, line, column, e := Parse(s); e != api.OK || line != 0 || column != 0 || !equal(q, want) {
				t.Errorf("Parse(%q) = %v, %d, %d, %v, want %v", s, q, line, column, e, want)
			}
			if got, e := Print(want); e != api.OK || got != s {
				t.Errorf("Print(%v) = %q, %v, want %q", want, got, e, s)
			}
		}
	}
}

// Blanks and remarks make no difference.
func TestParseOfOtherBlanks(t *testing.T) {
	want := ruled(rule("a", "?x ?y", fact("?x", word("b"), "?y"), not(call("c", "?x", 1))))
	want.In = []string{"?z"}
	for _, s := range []string{
		"(rule (a ?x ?y) [?x :b ?y] (not (c ?x 1))) (query (find ?x) (in ?z) (where (a ?x)))",
		"(rule(a ?x ?y)[?x :b ?y](not(c ?x 1)))(query(find ?x)(in ?z)(where(a ?x)))",
		"; a rule\n\n ( rule\t( a ?x\r\n?y );(\n[ ?x :b ?y ]( not ( c ?x 1 ) ) )\n(query ; in\n (find ?x) (in ?z)\n (where (a ?x)) ) ; )",
	} {
		if q, line, column, e := Parse(s); e != api.OK || line != 0 || column != 0 || !equal(q, want) {
			t.Errorf("Parse(%q) = %v, %d, %d, %v, want %v", s, q, line, column, e, want)
		}
	}
}

// refused asks that a text be refused, with an error and a place.
func refused(t *testing.T, s string, e api.Errno, line, column int) {
	t.Helper()
	if q, gotLine, gotColumn, got := Parse(s); got != e || gotLine != line || gotColumn != column || !equal(q, api.Query{}) {
		t.Errorf("Parse(%.300q) = %s, %d, %d, %v, want %v at %d:%d", s, brief(q), gotLine, gotColumn, got, e, line, column)
	}
}

// Of each text a clause, an element of Find, a list of the query or a rule cannot stand there.
func TestParseOfWhatIsNone(t *testing.T) {
	for _, clause := range []string{
		"", "1", "a", "?x", ":a", "()", "[]", "{}", "{?x :a 1}", "{a ?x}", "(1)", "(1 ?x)", "((a ?x))", "((a) ?x)", "([a] ?x)", "(\"a\" ?x)", "(:a ?x)",
		// Facts.
		"[?x]", "[?x :a]", "[?x :a 1 2 true 3]", "[?x :a 1 2 true _]", "[1 :n ?x]", "[:a :n ?x]", "[?x 1 ?y]", "[?x @1 ?y]", "[?x \"a\" ?y]", "[?x :a 1 @1]", "[?x :a 1 !1]", "[?x :a 1 true]", "[?x :a 1 2 3]", "[?x :a 1 2 \"true\"]", "[a :a 1]", "[?x b 1]", "[?x :a c]", "[?x :a 1 d]", "[?x :a 1 2 e]", "[? :a 1]", "[?x :a ?]", "[?x :a (1)]", "[(?x) :a 1]", "[?x :a [1]]", "[?x :a {}]", "[->  :a 1]", "[__ :a 1]",
		// Predicates.
		"(<)", "(< ?x)", "(< ?x ?y ?z)", "(< ?x _)", "(= _ ?x)", "(= ?x a)", "(= ?x (1))", "(= ?x [1])", "(< ?x 1 -> ?y)", "(kind ?x)", "(begins ?x \"a\" 1)", "(has _ _)", "[< ?x 1]", "[= ?x 1]",
		// Functions.
		"(+)", "(+ ?x 1)", "(+ ?x 1 ?y)", "(+ ?x 1 ->)", "(+ ?x 1 -> 5)", "(+ ?x 1 -> _)", "(+ ?x 1 -> y)", "(+ ?x 1 -> (?y))", "(+ ?x 1 -> ?y ?z)", "(+ ?x -> ?y)", "(+ ?x 1 2 -> ?y)", "(+ -> ?y)", "(+ ?x _ -> ?y)", "(+ _ ?x -> ?y)", "(+ ?x a -> ?y)", "(+ ?x (1) -> ?y)", "(+ -> ?x 1 ?y)", "(+ ?x -> 1 ?y)", "(+ ?x 1 (->) ?y)", "(+ ?x 1 -> -> ?y)", "(+ ?x -> -> ?y)", "(neg ?x 1 -> ?y)", "(neg -> ?y)", "(neg _ -> ?y)", "(neg ?x ?y)", "(neg ?x)", "(sub ?x 1 -> ?y)", "(sub ?x 1 2 3 -> ?y)", "(sub ?x 1 2 ?y)", "(-> ?y)", "(-> ?x ?y)", "(->)",
		// Calls.
		"(a)", "(a b)", "(a (b))", "(a [b])", "(a ?)", "(a ?x -> ?y)", "(?x 1)", "(? 1)", "(_ 1)", "(rule ?x)", "(query ?x)", "(find ?x)", "(in ?x)", "(with ?x)", "(where ?x)", "(count ?x)", "(distinct ?x)", "(sum ?x)", "(least ?x)", "(greatest ?x)", "(a" + strings.Repeat(" ?x", 17) + ")", "[a ?x]", "{a ?x}", "(true ?x)", "(5 ?x)", "(@1 ?x)",
		// Those with clauses within them.
		"(not)", "(or)", "(and)", "(not ?x)", "(or 1)", "(not ())", "(not (and (a ?x)))", "(and (a ?x))", "(not (a ?x) (and (a ?x)))", "(or (and (and (a ?x))))", "(or (and))", "(or (and ?x))", "(or (and (a ?x) (and (a ?x))))", "(or (not (and (a ?x))))", "(not (a))", "(or (a ?x) (b))", "(or (and (a ?x) (< ?x _)))", "[not (a ?x)]", "{or (a ?x)}", "(not not (a ?x))", "(or [])", "(not (or (not ())))", "(or ((a ?x)))",
	} {
		refused(t, "(query (find ?x) (where "+clause+"))", api.ErrQuery, 1, 1)
		refused(t, "(query (find ?x) (where (or (not "+clause+"))))", api.ErrQuery, 1, 1)
		refused(t, "(rule (a ?x) "+clause+")(query (find ?x) (where (a ?x)))", api.ErrQuery, 1, 1)
		if clause != "" {
			refused(t, "(query (find ?x) (where (b ?x) "+clause+"))", api.ErrQuery, 1, 1)
			refused(t, "(query (find ?x) (where "+clause+" (b ?x)))", api.ErrQuery, 1, 1)
			refused(t, "(rule (a ?x) (b ?x))\n (rule (a ?x) (b ?x) "+clause+")(query (find ?x) (where (a ?x)))", api.ErrQuery, 2, 2)
		}
	}
	for _, element := range []string{
		"1", "_", "a", "?", ":a", "@1", "()", "[]", "{}", "[?x]", "{?x}", "(?x)", "(count ?x)", "(count _)", "(count 1)", "(count ())", "(count count)", "(distinct)", "(sum)", "(least)", "(greatest)", "(sum _)", "(sum 1)", "(sum a)", "(sum ?)", "(sum (?x))", "(sum ?x ?y)", "(sum ?x 1)", "(sum (count))", "(least ?x ?x)", "[count]", "[sum ?x]", "{sum ?x}", "count", "sum", "(max ?x)", "(a ?x)", "(\"sum\" ?x)", "(:sum ?x)", "(1 ?x)", "((sum) ?x)", "((sum ?x))", "((count))", "(find ?x)",
	} {
		refused(t, "(query (find "+element+") (where (a ?x)))", api.ErrQuery, 1, 1)
		refused(t, "(query (find ?y "+element+") (where (a ?x)))", api.ErrQuery, 1, 1)
		refused(t, "(query (find "+element+" (count)) (where (a ?x)))", api.ErrQuery, 1, 1)
	}
	for _, lists := range []string{
		"", "(find ?x)", "(where (a ?x))", "(find) (where (a ?x))", "(find ?x) (where)", "(find) (where)", "(where (a ?x)) (find ?x)", "(find ?x) (find ?x) (where (a ?x))", "(find ?x) (where (a ?x)) (where (a ?x))", "(find ?x) (where (a ?x)) (in ?x)", "(find ?x) (where (a ?x)) (with ?x)", "(in ?x) (find ?x) (where (a ?x))", "(with ?x) (find ?x) (where (a ?x))", "(find ?x) (with ?x) (in ?x) (where (a ?x))", "(find ?x) (in ?x) (in ?y) (where (a ?x))", "(find ?x) (with ?x) (with ?y) (where (a ?x))",
		"(find ?x) (in) (where (a ?x))", "(find ?x) (with) (where (a ?x))", "(find ?x) (in ?x) (with) (where (a ?x))", "(find ?x) (in ?x ?x) (where (a ?x))", "(find ?x) (with ?x ?y ?x) (where (a ?x))", "(find ?x) (in _) (where (a ?x))", "(find ?x) (in 1) (where (a ?x))", "(find ?x) (in a) (where (a ?x))", "(find ?x) (in ?x 1) (where (a ?x))", "(find ?x) (in (?x)) (where (a ?x))", "(find ?x) (with _) (where (a ?x))", "(find ?x) (with ()) (where (a ?x))", "(find ?x) (with [?x]) (where (a ?x))", "(find ?x) in ?x (where (a ?x))",
		"find ?x (where (a ?x))", "[find ?x] (where (a ?x))", "(find ?x) [where (a ?x)]", "{find ?x} (where (a ?x))", "(find ?x) (in ?x) {where (a ?x)}", "(\"find\" ?x) (where (a ?x))", "(find ?x) (:where (a ?x))", "(?x) (where (a ?x))", "(find ?x) (a ?x)", "(find ?x) () (where (a ?x))", "(find ?x) (where (a ?x)) ()", "(find ?x) (where (a ?x)) 1", "(find ?x) ?x (where (a ?x))", "(find ?x) (rule (a ?x) (a ?x)) (where (a ?x))", "((find ?x) (where (a ?x)))", "((find) ?x) (where (a ?x))", "query (find ?x) (where (a ?x))",
	} {
		refused(t, "(query "+lists+")", api.ErrQuery, 1, 1)
		refused(t, "(rule (a ?x) (a ?x))\n  (query "+lists+")", api.ErrQuery, 2, 3)
	}
	for _, parts := range []string{
		"", "(a ?x)", "(a ?x) ", "(a) (b ?x)", "() (b ?x)", "a (b ?x)", "?x (b ?x)", "a ?x (b ?x)", "1 (b ?x)", "[a ?x] (b ?x)", "{a ?x} (b ?x)", "[?x :a 1] (b ?x)", "(a _) (b ?x)", "(a 1) (b ?x)", "(a b) (b ?x)", "(a ?) (b ?x)", "(a ?x ?x) (b ?x)", "(a ?x ?y ?x) (b ?x)", "(a ?x _) (b ?x)", "(a ?x 1) (b ?x)", "(a (?x)) (b ?x)", "(a ?x ()) (b ?x)", "(1 ?x) (b ?x)", "(:a ?x) (b ?x)", "((a) ?x) (b ?x)", "((a ?x)) (b ?x)", "((a ?x) (b ?x))", "(b ?x) a", "rule (a ?x) (b ?x)",
		"(= ?x ?y) (b ?x)", "(kind ?x ?y) (b ?x)", "(+ ?x ?y) (b ?x)", "(neg ?x) (b ?x)", "(sub ?x) (b ?x)", "(?a ?x) (b ?x)", "(? ?x) (b ?x)", "(_ ?x) (b ?x)", "(-> ?x) (b ?x)", "(not ?x) (b ?x)", "(or ?x) (b ?x)", "(and ?x) (b ?x)", "(rule ?x) (b ?x)", "(query ?x) (b ?x)", "(find ?x) (b ?x)", "(in ?x) (b ?x)", "(with ?x) (b ?x)", "(where ?x) (b ?x)", "(count ?x) (b ?x)", "(distinct ?x) (b ?x)", "(sum ?x) (b ?x)", "(least ?x) (b ?x)", "(greatest ?x) (b ?x)",
	} {
		refused(t, "(rule "+parts+") (query (find ?x) (where (a ?x)))", api.ErrQuery, 1, 1)
		refused(t, "(rule (a ?x) (a ?x))\n\n (rule "+parts+") (query (find ?x) (where (a ?x)))", api.ErrQuery, 3, 2)
	}
}

// many are texts of so many rules, a line each.
func many(n int) string { return strings.Repeat("(rule (a ?x) (b ?x))\n", n) }

func TestPlacesOfFaults(t *testing.T) {
	const one, ask = "(rule (a ?x) (b ?x))", "(query (find ?x) (where (a ?x)))"
	for _, x := range []struct {
		s            string
		line, column int
	}{
		// The chapter's.
		{"(query (find) (where [?x :n 1]))", 1, 1}, {"(rule (above ?x ?y) [?x :a ?y])", 1, 1}, {"(query (find ?x) (where (< ?x _)))", 1, 1}, {"(query (find ?x) (where [1 :n ?x]))", 1, 1},
		// Without nodes.
		{"", 1, 1}, {" \n\n ; a\n", 1, 1},
		// The last one, if it is a rule.
		{one, 1, 1}, {"\n  " + one, 2, 3}, {one + "\n" + one + " ; a", 2, 1},
		// A node that is neither a rule nor, as the last one, the query.
		{"a", 1, 1}, {" 1 2", 1, 2}, {one + " a " + ask, 1, 22}, {one + "\n" + ask + ask, 2, 1}, {ask + one, 1, 1}, {ask + "\n" + ask, 1, 1}, {ask + " a", 1, 1}, {one + "a", 1, 21}, {"(rules (a ?x) (b ?x))" + ask, 1, 1}, {"[rule (a ?x) (b ?x)] " + ask, 1, 1}, {one + "\n[query (find ?x) (where (a ?x))]", 2, 1}, {one + "\n\n(quest (find ?x) (where (a ?x)))", 3, 1}, {"((rule (a ?x) (b ?x)))" + ask, 1, 1}, {"()" + ask, 1, 1}, {one + "{}", 1, 21}, {"(\"rule\" (a ?x) (b ?x))" + ask, 1, 1}, {"(:query (find ?x) (where (a ?x)))", 1, 1}, {"((query (find ?x) (where (a ?x))))", 1, 1},
		// Of two the first one; the place is the top node's.
		{one + "\n\t(rule (a ?x)\n()) () (query)", 2, 2}, {"(query)(rule)", 1, 1}, {one + "(rule)(query)", 1, 21}, {one + "\n(query (find ?x)\n(where\n[1 :a ?x]))", 2, 1},
		// The 201st rule, whether it may be or not.
		{many(201) + ask, 201, 1}, {many(201), 201, 1}, {many(200) + "\n " + one + "()" + ask, 202, 2}, {many(625), 201, 1}, {many(200) + "(rule)" + ask, 201, 1}, {many(200) + "a" + ask, 201, 1}, {many(200) + ask + ask, 201, 1},
		{many(200), 200, 1}, {many(200) + "a", 201, 1}, {many(199) + "()" + one + ask, 200, 1}, {many(7) + "()" + many(200) + ask, 8, 1},
	} {
		refused(t, x.s, api.ErrQuery, x.line, x.column)
	}
	// Text that is none goes ahead, wherever it stands.
	for _, x := range []struct {
		s            string
		line, column int
	}{
		{"a )", 1, 3}, {"() ()\n(query", 2, 7}, {one + "A" + ask, 1, 21}, {many(300) + "]", 301, 1}, {"(rule) \"", 1, 9}, {strings.Repeat("(", 51), 1, 51}, {strings.Repeat("a ", 5001), 1, 10001}, {"5a", 1, 1},
	} {
		refused(t, x.s, api.ErrText, x.line, x.column)
	}
	if q, line, column, e := Parse(many(200) + ask); e != api.OK || line != 0 || column != 0 || len(q.Rules) != 200 || !equal(q, ruled(slices.Repeat([]api.Rule{rule("a", "?x", call("b", "?x"))}, 200)...)) {
		t.Errorf("Parse of 200 rules: %s, %d, %d, %v", brief(q), line, column, e)
	}
}

func TestVariable(t *testing.T) {
	for _, s := range []string{"?x", "??", "?5", "?-", "?+1", "?!-5", "?->", "?true", "?_", "?x/y.z", "?" + strings.Repeat("a", api.MaxName-1)} {
		if !Variable(s) {
			t.Errorf("%q is no variable", s)
		}
	}
	for _, s := range []string{"", "?", "x", "x?", "_", "->", "?X", "?x y", " ?x", "?x ", "?x\n", "?:", "?@1", "?\"", "?(", "?;", "?é", "?\x00", ":?x", "5?", "-?x", "+?", "!?x", "=?x", "true", "?" + strings.Repeat("a", api.MaxName)} {
		if Variable(s) {
			t.Errorf("%q is a variable", s)
		}
	}
}

func TestVars(t *testing.T) {
	deep := fact("?deep", "?a", "_")
	for range 1 << 16 {
		deep = not(deep)
	}
	odd := api.Clause{Kind: 99, Name: "?name", Args: []api.Arg{{Var: "?b", V: ref(1)}, {V: str("?text")}, {Var: "?"}, {Var: "?B"}, {Var: "_"}, {}}, Out: "?a", Kids: where(fact("?kid", "kid", 1), api.Clause{Out: "?out"}, api.Clause{Out: "out"})}
	for i, x := range []struct {
		l    []api.Clause
		want string
	}{
		{nil, ""}, {where(), ""}, {where(api.Clause{}), ""}, {where(fact(1, "_", "x", ref(1))), ""},
		{where(fact("?x", word("a"), "?y", "?z", "?op")), "?op ?x ?y ?z"},
		{where(fact("?b", "?a", "?b"), fact("?a", "?a", "?a")), "?a ?b"},
		{where(test("<", "?y", "?x"), do("+", "?o", "?x", 1), call("a", "?c", "_", "?c")), "?c ?o ?x ?y"},
		{where(not(fact("?n", "_", "_")), or(call("a", "?o"), and(test("=", "?y", "?x"), not(or(do("-", "?d", 1, 2)))))), "?d ?n ?o ?x ?y"},
		// In the order of their bytes.
		{where(fact("?b", "?aa", "?a"), fact("??", "?0", "?_")), "?0 ?? ?_ ?a ?aa ?b"},
		// Clauses that may not be have variables, too.
		{where(odd), "?a ?b ?kid ?out"}, {where(and(odd), and()), "?a ?b ?kid ?out"}, {where(api.Clause{Kind: api.ClauseNot, Args: args([]any{"?x"}), Out: "?y"}), "?x ?y"}, {where(api.Clause{Kind: api.ClauseFact, Kids: where(api.Clause{Out: "?x"})}), "?x"},
		{where(deep, fact("?z", "?z", "?z")), "?a ?deep ?z"},
	} {
		if got := Vars(x.l); !slices.Equal(got, strings.Fields(x.want)) {
			t.Errorf("%d: Vars = %v, want %s", i, got, x.want)
		}
	}
}

// What tells clauses tells each ahead of what stands within it, and stops when no more are wanted.
func TestToldStops(t *testing.T) {
	l := where(call("a"), not(call("b"), or(call("c"), and(call("d"))), call("e")), call("f"))
	want := []int{4, 5, 4, 6, 4, 7, 4, 4, 4}
	for most := 1; most <= len(want); most++ {
		var got []int
		names := ""
		for c := range told(l) {
			names += c.Name
			if got = append(got, c.Kind); len(got) == most {
				break
			}
		}
		if !slices.Equal(got, want[:most]) || !strings.HasPrefix("abcdef", names) {
			t.Errorf("the first %d clauses: %v, %s", most, got, names)
		}
	}
}
