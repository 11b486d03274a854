package strata

import (
	"fmt"
	"slices"
	"strings"
	"testing"

	"daybook/api"
)

const ask = "(query (find ?x) (where [?x :a 1]))"

// read is how levels read.
func read(l []Level) string {
	var all []string
	for _, x := range l {
		all = append(all, fmt.Sprint(x.Name, " ", x.N))
	}
	return strings.Join(all, ", ")
}

// queries are texts with the levels of their rules' names, or the error.
var queries = []struct {
	s, levels string
	e         api.Errno
}{
	// The chapter's.
	{"(rule (f ?x) (g ?x) (not (h ?x))) (rule (g ?x) (f ?x)) (rule (h ?x) [?x :a _])" + ask, "f 1, g 1, h 0", api.OK},
	{"(rule (f ?x) [?x :a _] (not (g ?x))) (rule (g ?x) (f ?x))" + ask, "", api.ErrStrata},
	// Without rules; without nots.
	{ask, "", api.OK},
	{"(rule (b ?x) (b ?x)) (rule (a ?x) (c ?x) (b ?x)) (rule (c ?x) (a ?x)) (rule (b ?x) (a ?x))" + ask, "a 0, b 0, c 0", api.OK},
	// Levels upon levels, of the highest of all rules of a name.
	{"(rule (d ?x) [?x :a _] (not (c ?x))) (rule (c ?x) [?x :a _] (not (b ?x))) (rule (b ?x) [?x :a _] (not (a ?x))) (rule (a ?x) [?x :a _])" + ask, "a 0, b 1, c 2, d 3", api.OK},
	{"(rule (a ?x) [?x :a _]) (rule (b ?x) [?x :a _] (not (a ?x))) (rule (c ?x) [?x :a _]) (rule (c ?x) [?x :a _] (not (b ?x))) (rule (c ?x) (a ?x)) (rule (d ?x) (c ?x)) (rule (e ?x) (a ?x) (not (a ?x)))" + ask, "a 0, b 1, c 2, d 2, e 1", api.OK},
	{"(rule (a ?x) [?x :a _] (not [?x :b _] (not (b ?x)))) (rule (b ?x) [?x :a _])" + ask, "a 1, b 0", api.OK},
	{"(rule (a ?x) (or [?x :a _] (and [?x :b _] (not (or (b ?x) (c ?x)))))) (rule (b ?x) [?x :a _] (not (d ?x))) (rule (c ?x) [?x :a _]) (rule (d ?x) (d ?x))" + ask, "a 2, b 1, c 0, d 0", api.OK},
	// A not of the query itself hangs on nothing.
	{"(rule (a ?x) [?x :a _])(query (find ?x) (where [?x :a 1] (not (a ?x))))", "a 0", api.OK},
	// Names that hang on their own not, at once or by others, and those that hang on them.
	{"(rule (a ?x) [?x :a _] (not (a ?x)))" + ask, "", api.ErrStrata},
	{"(rule (a ?x) [?x :a _] (not [?x :b _] (not (a ?x))))" + ask, "", api.ErrStrata},
	{"(rule (a ?x) (b ?x)) (rule (b ?x) (c ?x)) (rule (c ?x) (or [?x :a _] (and [?x :b _] (not (a ?x)))))" + ask, "", api.ErrStrata},
	{"(rule (z ?x) [?x :a _]) (rule (a ?x) (b ?x)) (rule (b ?x) [?x :a _] (not (b ?x)))" + ask, "", api.ErrStrata},
	{"(rule (a ?x) (a ?x)) (rule (a ?x) [?x :a _] (not (b ?x))) (rule (b ?x) [?x :a _]) (rule (b ?x) (a ?x))" + ask, "", api.ErrStrata},
	// Calls of what is no rule, or with another number of arguments, wherever they stand.
	{"(query (find ?x) (where (a ?x)))", "", api.ErrNoRule},
	{"(rule (a ?x) [?x :a _]) (query (find ?x) (where (a ?x ?x)))", "", api.ErrNoRule},
	{"(rule (a ?x ?y) [?x :a ?y]) (query (find ?x) (where (a ?x)))", "", api.ErrNoRule},
	{"(rule (a ?x ?y) [?x :a ?y]) (query (find ?x) (where (a ?x _)))", "a 0", api.OK},
	{"(rule (a ?x) (b ?x))" + ask, "", api.ErrNoRule},
	{"(rule (a ?x) (a ?x _))" + ask, "", api.ErrNoRule},
	{"(rule (a ?x) (or [?x :a _] (and (a ?x) (not (c ?x)))))" + ask, "", api.ErrNoRule},
	{"(rule (a ?x) [?x :a _]) (query (find ?x) (where [?x :a _] (not (or [?x :b _] (a ?x) (b ?x)))))", "", api.ErrNoRule},
	{"(rule (a ?x) [?x :a _]) (rule (a ?y) [?y :b _])" + ask, "a 0", api.OK},
	{"(rule (a ?x) [?x :a _]) (rule (a ?x ?y) [?x :a ?y])" + ask, "", api.ErrNoRule},
	{"(rule (a ?x ?y) [?x :a ?y]) (rule (b ?x) [?x :a _]) (rule (a ?x) [?x :a _])" + ask, "", api.ErrNoRule},
	// Rules that are not safe: of the body, or of the arguments.
	{"(rule (a ?x) [_ :a _])" + ask, "", api.ErrUnsafe},
	{"(rule (a ?x) (= ?x 1))" + ask, "", api.ErrUnsafe},
	{"(rule (a ?x) (+ 1 1 -> ?x))" + ask, "a 0", api.OK},
	{"(rule (a ?x ?y) [?x :a _])" + ask, "", api.ErrUnsafe},
	{"(rule (a ?x) [?x :a _] (= ?y 1))" + ask, "", api.ErrUnsafe},
	{"(rule (a ?x) (not [?x :a _]))" + ask, "", api.ErrUnsafe},
	{"(rule (a ?x) (or [?x :a _] [_ :a ?y]))" + ask, "", api.ErrUnsafe},
	{"(rule (a ?x) (or [?x :a _] [_ :a ?x]))" + ask, "a 0", api.OK},
	{"(rule (a ?x ?y) [?x :a _] (not [?x :b ?y]))" + ask, "", api.ErrUnsafe},
	{"(rule (a ?x) [?x :a _] (not [?x :b ?y]))" + ask, "a 0", api.OK},
	{"(rule (a ?x) [?x :a _]) (rule (a ?x) [_ :a _])" + ask, "", api.ErrUnsafe},
	// What is bound in the query is not in its rules.
	{"(rule (a ?x) (= ?x 1)) (query (find ?x) (in ?x) (where (a ?x)))", "", api.ErrUnsafe},
	// Queries that are not safe.
	{"(query (find ?x) (where [_ :a _]))", "", api.ErrUnsafe},
	{"(query (find ?x ?y) (where [?x :a _]))", "", api.ErrUnsafe},
	{"(query (find (sum ?y)) (where [?x :a _]))", "", api.ErrUnsafe},
	{"(query (find (sum ?y) ?x) (where [?x :a ?y]))", "", api.OK},
	{"(query (find (count)) (where [_ :a _]))", "", api.OK},
	{"(query (find ?x) (with ?y) (where [?x :a _]))", "", api.ErrUnsafe},
	{"(query (find ?x) (with ?y) (where [?x :a ?y]))", "", api.OK},
	{"(query (find ?x) (in ?x) (where [_ :a _]))", "", api.OK},
	{"(query (find ?x) (in ?y) (with ?y) (where [?x :a _]))", "", api.OK},
	{"(query (find ?x) (in ?y) (where (+ ?y 1 -> ?x)))", "", api.OK},
	{"(query (find ?x) (where (+ ?y 1 -> ?x)))", "", api.ErrUnsafe},
	{"(query (find ?x) (where [?x :a _] (= ?y 1)))", "", api.ErrUnsafe},
	{"(query (find ?x) (in ?y) (where [?x :a _] (= ?y 1)))", "", api.OK},
	// The variables of In, Find and With stand outside of the clauses.
	{"(query (find (count)) (in ?y) (where (or [?y :a _] [_ :a _])))", "", api.OK},
	{"(query (find (least ?y)) (where [_ :b ?y] (not [?x :a ?y])))", "", api.OK},
	{"(query (find (least ?y)) (where (not [_ :a ?y])))", "", api.ErrUnsafe},
	{"(query (find ?x) (with ?y) (where [?x :b ?y] (or [?y :a _] [_ :a _])))", "", api.OK},
	{"(query (find ?x) (with ?y) (where [?x :b _] (or [?y :a _] [_ :a _])))", "", api.ErrUnsafe},
	{"(query (find ?x) (where [?x :b _] (or [?y :a _] [_ :a _])))", "", api.OK},
	// Of several errors the first one.
	{"(rule (a ?x) (= ?y 1) (not (a ?x)) (b ?x))" + ask, "", api.ErrNoRule},
	{"(rule (a ?x) (= ?y 1) (not (a ?x)))" + ask, "", api.ErrUnsafe},
	{"(rule (a ?x) [?x :a _] (not (a ?x))) (query (find ?y) (where [?x :a _]))", "", api.ErrUnsafe},
	{"(rule (a ?x) (= ?x 1)) (query (find ?y) (where (b ?y)))", "", api.ErrNoRule},
	{"(rule (a ?x) [?x :a _] (not (a ?x))) (query (find ?y) (where (a ?y ?y)))", "", api.ErrNoRule},
}

func TestCheckAndLevels(t *testing.T) {
	for _, x := range queries {
		q := asked(t, x.s)
		if e := Check(q); e != x.e {
			t.Errorf("Check(%s) = %v, want %v", x.s, e, x.e)
		}
		if l, e := Levels(q); e != x.e || read(l) != x.levels {
			t.Errorf("Levels(%s) = %v, %v, want %s, %v", x.s, l, e, x.levels, x.e)
		}
	}
}

// A query that may not be is ErrQuery, whatever else it is.
func TestQueriesThatMayNotBe(t *testing.T) {
	unsafe, strata := asked(t, "(rule (a ?x) (= ?x 1) (b ?y))"+ask), asked(t, "(rule (a ?x) [?x :a _] (not (a ?x)))"+ask)
	for _, q := range []api.Query{{}, {Find: unsafe.Find}, {Where: unsafe.Where}, {Rules: unsafe.Rules}} {
		if l, e := Levels(q); Check(q) != api.ErrQuery || e != api.ErrQuery || len(l) != 0 {
			t.Errorf("%v: %v, Levels %v, %v", q, Check(q), l, e)
		}
	}
	for _, q := range []api.Query{unsafe, strata} {
		q.In = []string{"?x", "?x"}
		if l, e := Levels(q); Check(q) != api.ErrQuery || e != api.ErrQuery || len(l) != 0 {
			t.Errorf("%v: %v, Levels %v, %v", q, Check(q), l, e)
		}
		q.In = nil
		q.Where = slices.Concat(q.Where, []api.Clause{{}})
		if l, e := Levels(q); Check(q) != api.ErrQuery || e != api.ErrQuery || len(l) != 0 {
			t.Errorf("%v: %v, Levels %v, %v", q, Check(q), l, e)
		}
	}
	// Clauses that stand within themselves.
	l := []api.Clause{{Kind: api.ClauseNot}}
	l[0].Kids = l
	if q := (api.Query{Find: unsafe.Find, Where: l}); Check(q) != api.ErrQuery {
		t.Errorf("clauses that stand within themselves: %v", Check(q))
	}
}

// As many rules as may be: each hangs on the one ahead by a not.
func TestManyLevels(t *testing.T) {
	var texts []string
	want := make([]Level, api.MaxRules)
	for i := range api.MaxRules {
		want[i] = Level{fmt.Sprintf("r%03d", i), i}
		if texts = append(texts, fmt.Sprintf("(rule (r%03d ?x) [?x :a _])", i)); i > 0 {
			texts[i] = fmt.Sprintf("(rule (r%03d ?x) [?x :a _] (not (r%03d ?x)))", i, i-1)
		}
	}
	for range 2 {
		q := asked(t, strings.Join(texts, "")+ask)
		if l, e := Levels(q); e != api.OK || !slices.Equal(l, want) {
			t.Errorf("Levels of %d rules: %v, %v", api.MaxRules, l, e)
		}
		slices.Reverse(texts)
	}
	texts[0] = "(rule (r000 ?x) (r199 ?x))"
	if q := asked(t, strings.Join(texts, "")+ask); Check(q) != api.ErrStrata {
		t.Errorf("Check of %d rules in a ring: %v", api.MaxRules, Check(q))
	}
}

// Lists that are long, and such as turn round each time, are gone through in little time.
func TestLongLists(t *testing.T) {
	const n = 2000
	var l []api.Clause
	var want []int
	for i := range n {
		l = append(l, api.Clause{Kind: api.ClauseDo, Name: "neg", Args: []api.Arg{{Var: fmt.Sprint("?", i+1)}}, Out: fmt.Sprint("?", i)})
		want = append(want, n-i)
	}
	l = append(l, api.Clause{Kind: api.ClauseFact, Args: []api.Arg{{Var: fmt.Sprint("?", n)}}})
	if got, e := Order(l, nil, nil); e != api.OK || !slices.Equal(got, append(want, 0)) {
		t.Errorf("Order of a long list: %v, %s", e, brief(got))
	}
	if got, e := Bound(l[:n], nil, nil); e != api.ErrUnsafe || len(got) != 0 {
		t.Errorf("Bound of a long list without its end: %s, %v", brief(got), e)
	}
}

// Clauses that stand deep within others, each of which waits for the one behind it, are gone through in little time, and as deep as may be.
func TestDeepLists(t *testing.T) {
	fact := func(v string) api.Clause { return api.Clause{Kind: api.ClauseFact, Args: []api.Arg{{Var: v}}} }
	for _, kind := range []int{api.ClauseNot, api.ClauseOr, api.ClauseAnd} {
		l := []api.Clause{fact("?x"), {Kind: api.ClauseCall, Name: "a", Args: []api.Arg{{Var: "?x"}}}}
		for range 1<<16 - 2 {
			l = []api.Clause{{Kind: kind, Kids: l}}
		}
		order, e := Order(l, nil, []string{"?x"})
		if kind == api.ClauseNot && (e != api.ErrUnsafe || len(order) != 0) || kind != api.ClauseNot && (e != api.OK || !slices.Equal(order, []int{0})) {
			t.Errorf("Order of deep clauses of kind %d: %v, %v", kind, order, e)
		}
		vars, e := Bound(l, []string{"?x"}, nil)
		if all, not := Hangs(api.Rule{Body: l}); e != api.OK || !slices.Equal(vars, []string{"?x"}) || len(Calls(l)) != 1 || len(all) != 1 || (len(not) == 1) != (kind == api.ClauseNot) || len(Shares(l, 0, vars)) != 1 {
			t.Errorf("deep clauses of kind %d: Bound %v, %v", kind, vars, e)
		}
	}
	test := api.Clause{Kind: api.ClauseTest, Args: []api.Arg{{Var: "?0"}}}
	var bound []string
	for i := range 200 {
		v := fmt.Sprint("?", i)
		bound = append(bound, v)
		test.Args = append(test.Args, api.Arg{Var: v})
	}
	l := []api.Clause{test}
	for _, v := range bound {
		// The or binds what it needs by its own last kid alone.
		l = []api.Clause{{Kind: api.ClauseOr, Kids: []api.Clause{{Kind: api.ClauseAnd, Kids: l}}}, {Kind: api.ClauseOr, Kids: []api.Clause{fact(v)}}}
	}
	order, e := Order(l, nil, nil)
	if vars, f := Bound(l, nil, bound); e != api.OK || f != api.OK || !slices.Equal(order, []int{1, 0}) || len(vars) != 200 {
		t.Errorf("Order of ors that wait: %v, %v; Bound: %d, %v", order, e, len(vars), f)
	}
	if vars, f := Bound(l[:1], nil, bound); f != api.ErrUnsafe || len(vars) != 0 {
		t.Errorf("Bound of ors that wait without end: %d, %v", len(vars), f)
	}
}
