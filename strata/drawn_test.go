package strata

import (
	"fmt"
	"maps"
	"math/rand"
	"slices"
	"testing"

	"daybook/api"
	"daybook/rule"
)

func pick[T any](r *rand.Rand, l []T) T { return l[r.Intn(len(l))] }

// The model goes by the chapter's words, clause by clause, each time anew.

type set map[string]bool

func setOf(names ...[]string) set {
	s := set{}
	for _, l := range names {
		for _, v := range l {
			s[v] = true
		}
	}
	return s
}

func (s set) sorted() []string { return slices.Sorted(maps.Keys(s)) }

func (s set) all(vars []string) bool {
	return !slices.ContainsFunc(vars, func(v string) bool { return !s[v] })
}

func vars(l ...api.Clause) []string { return rule.Vars(l) }

func sharesOf(l []api.Clause, at int, outside set) []string {
	var shared []string
	for _, v := range vars(l[at]) {
		is := outside[v]
		for i, c := range l {
			is = is || i != at && slices.Contains(vars(c), v)
		}
		if is {
			shared = append(shared, v)
		}
	}
	return shared
}

// taken takes clauses and answers what is bound then, with the places.
func taken(l []api.Clause, bound, outside set) (set, []int) {
	bound = maps.Clone(bound)
	var places []int
	for at := 0; at < len(l); at++ {
		if slices.Contains(places, at) {
			continue
		}
		if binds, can := takes(l, at, bound, outside); can {
			maps.Copy(bound, setOf(binds))
			places = append(places, at)
			at = -1
		}
	}
	return bound, places
}

// takes says whether a clause can be taken, and what it binds.
func takes(l []api.Clause, at int, bound, outside set) ([]string, bool) {
	c, shares := l[at], sharesOf(l, at, outside)
	var lists [][]api.Clause
	switch c.Kind {
	case api.ClauseFact, api.ClauseCall:
		return vars(c), true
	case api.ClauseTest:
		return nil, bound.all(vars(c))
	case api.ClauseDo:
		return vars(api.Clause{Out: c.Out}), bound.all(vars(api.Clause{Args: c.Args}))
	case api.ClauseNot:
		_, places := taken(c.Kids, bound, setOf(shares))
		return nil, bound.all(shares) && len(places) == len(c.Kids)
	case api.ClauseOr:
		for _, k := range c.Kids {
			if k.Kind == api.ClauseAnd {
				lists = append(lists, k.Kids)
			} else {
				lists = append(lists, []api.Clause{k})
			}
		}
	case api.ClauseAnd:
		lists = [][]api.Clause{c.Kids}
	default:
		return nil, true
	}
	for _, list := range lists {
		is, places := taken(list, bound, setOf(shares))
		if len(places) < len(list) || !is.all(shares) {
			return nil, false
		}
	}
	return shares, true
}

func callsOf(l []api.Clause, not bool) (calls []api.Clause, nots []bool) {
	for _, c := range l {
		if c.Kind == api.ClauseCall {
			calls, nots = append(calls, c), append(nots, not)
		}
		inner, innerNots := callsOf(c.Kids, not || c.Kind == api.ClauseNot)
		calls, nots = append(calls, inner...), append(nots, innerNots...)
	}
	return calls, nots
}

func hangsOf(r api.Rule) (all, not set) {
	all, not = set{}, set{}
	calls, nots := callsOf(r.Body, false)
	for i, c := range calls {
		all[c.Name] = true
		if nots[i] {
			not[c.Name] = true
		}
	}
	return all, not
}

func errorOf(q api.Query) api.Errno {
	if rule.Check(q) != api.OK {
		return api.ErrQuery
	}
	calls, _ := callsOf(q.Where, false)
	for _, r := range q.Rules {
		more, _ := callsOf(r.Body, false)
		calls = append(calls, more...)
		for _, s := range q.Rules {
			if r.Name == s.Name && len(r.Args) != len(s.Args) {
				return api.ErrNoRule
			}
		}
	}
	for _, c := range calls {
		if !slices.ContainsFunc(q.Rules, func(r api.Rule) bool { return r.Name == c.Name && len(r.Args) == len(c.Args) }) {
			return api.ErrNoRule
		}
	}
	for _, r := range q.Rules {
		if is, places := taken(r.Body, set{}, setOf(r.Args)); len(places) < len(r.Body) || !is.all(r.Args) {
			return api.ErrUnsafe
		}
	}
	outside := setOf(q.In, q.With)
	for _, f := range q.Find {
		if f.Op != 1 {
			outside[f.Var] = true
		}
	}
	if is, places := taken(q.Where, setOf(q.In), outside); len(places) < len(q.Where) || !is.all(outside.sorted()) {
		return api.ErrUnsafe
	}
	return api.OK
}

// leastLevels are the least numbers that keep what the chapter asks, out of all that could be; none if a name has none.
func leastLevels(rules []api.Rule) []Level {
	names := set{}
	for _, r := range rules {
		names[r.Name] = true
	}
	sorted := names.sorted()
	hangs := make([][2]set, len(rules))
	for i, r := range rules {
		hangs[i][0], hangs[i][1] = hangsOf(r)
	}
	keep := func(levels map[string]int) bool {
		for i, r := range rules {
			for name := range hangs[i][0] {
				if levels[r.Name] < levels[name] || hangs[i][1][name] && levels[r.Name] == levels[name] {
					return false
				}
			}
		}
		return true
	}
	var least map[string]int
	levels := map[string]int{}
	var turn func(at int)
	turn = func(at int) {
		if at < len(sorted) {
			for n := range sorted {
				levels[sorted[at]] = n
				turn(at + 1)
			}
			return
		}
		if keep(levels) {
			if least == nil {
				least = maps.Clone(levels)
			}
			for name, n := range levels {
				least[name] = min(least[name], n)
			}
		}
	}
	turn(0)
	var l []Level
	for _, name := range sorted {
		if least != nil {
			l = append(l, Level{name, least[name]})
		}
	}
	return l
}

// drawer draws clauses, of some variables.
type drawer struct {
	*rand.Rand
	vars  []string
	names []string
	// wild clauses need not be such that may be.
	wild bool
}

func newDrawer(r *rand.Rand, wild bool) drawer {
	vars := []string{"?a", "?b", "?c", "?d", "?e", "?f"}
	if wild {
		vars = append(vars, "_", "x", "?", "")
	}
	r.Shuffle(len(vars), func(i, j int) { vars[i], vars[j] = vars[j], vars[i] })
	return drawer{r, vars[:1+r.Intn(len(vars))], []string{"f", "h", "g", "i"}[:1+r.Intn(4)], wild}
}

func (d drawer) args(n int) []api.Arg {
	var l []api.Arg
	for range n {
		l = append(l, api.Arg{Var: pick(d.Rand, d.vars)})
		if d.Intn(4) == 0 {
			l[len(l)-1] = api.Arg{V: api.Value{Kind: api.KInt, N: 1}}
		}
	}
	return l
}

func (d drawer) fact() api.Clause {
	c := api.Clause{Kind: api.ClauseFact, Args: []api.Arg{{Var: "_"}, {Var: "_"}, {Var: "_"}}}
	for range 1 + d.Intn(2) {
		c.Args[d.Intn(3)].Var = pick(d.Rand, d.vars)
	}
	return c
}

func (d drawer) clause(deep int) api.Clause {
	kind := pick(d.Rand, []int{1, 1, 2, 3, 3, 4, 5, 5, 6, 6, 6})
	if deep == 0 {
		kind = pick(d.Rand, []int{1, 1, 2, 3, 4})
	}
	if d.wild && d.Intn(3) == 0 {
		return d.odd(deep)
	}
	c := api.Clause{Kind: kind}
	switch kind {
	case api.ClauseFact:
		return d.fact()
	case api.ClauseTest:
		c.Name, c.Args = "<", d.args(2)
	case api.ClauseDo:
		c.Name, c.Args, c.Out = "+", d.args(2), pick(d.Rand, d.vars)
	case api.ClauseCall:
		c.Name = pick(d.Rand, d.names)
		c.Args = d.args(arity(c.Name))
	case api.ClauseNot, api.ClauseOr:
		c.Kids = d.clauses(deep - 1)
		for i := range c.Kids {
			if kind == api.ClauseOr && d.Intn(2) == 0 {
				c.Kids[i] = api.Clause{Kind: api.ClauseAnd, Kids: d.clauses(deep - 1)}
			}
		}
	}
	return c
}

// arity is 1 of f and g, 2 of the others.
func arity(name string) int {
	if name == "f" || name == "g" {
		return 1
	}
	return 2
}

func (d drawer) odd(deep int) api.Clause {
	c := api.Clause{Kind: d.Intn(11) - 1, Name: pick(d.Rand, append(d.names, "")), Args: d.args(d.Intn(3))}
	if d.Intn(3) == 0 {
		c.Out = pick(d.Rand, d.vars)
	}
	if deep > 0 && d.Intn(3) > 0 {
		c.Kids = d.clauses(deep - 1)
	}
	return c
}

func (d drawer) clauses(deep int) []api.Clause {
	var l []api.Clause
	for range 1 + d.Intn(3) {
		l = append(l, d.clause(max(deep, 0)))
	}
	return l
}

func (d drawer) some(most int) []string {
	var l []string
	for range d.Intn(most + 1) {
		l = append(l, pick(d.Rand, d.vars))
	}
	return l
}

// each is the same, each once.
func each(l []string) []string { return setOf(l).sorted() }

func (d drawer) query() api.Query {
	q := api.Query{Find: []api.Find{{Op: 1}}, In: each(d.some(2)), With: each(d.some(1)), Where: d.clauses(2)}
	for _, v := range d.some(2) {
		q.Find = append(q.Find, api.Find{Op: pick(d.Rand, []int{0, 3}), Var: v})
	}
	if d.Intn(3) > 0 {
		q.Where = append(q.Where, d.fact(), d.fact())
	}
	rules := slices.Concat(d.names, d.names)[:len(d.names)+d.Intn(len(d.names)+1)]
	for _, name := range rules[d.Intn(20)/19:] {
		r := api.Rule{Name: name}
		r.Args = []string{"?a", "?b"}[:arity(r.Name)]
		if d.Intn(40) == 0 {
			r.Args = []string{"?b", "?a"}[:1+d.Intn(2)]
		}
		for range 1 + d.Intn(8) {
			r.Body = append(d.clauses(2), api.Clause{Kind: api.ClauseFact, Args: []api.Arg{{Var: "?a"}, {Var: "_"}, {Var: "?b"}}})
			if _, places := taken(r.Body, set{}, setOf(r.Args)); len(places) == len(r.Body) {
				break
			}
		}
		q.Rules = append(q.Rules, r)
	}
	if d.Intn(40) == 0 {
		q.In = append(q.In, "_")
	}
	return q
}

// Bound, Order, Shares, Calls and Hangs of drawn lists are what the chapter's words say.
func TestDrawnLists(t *testing.T) {
	r := rand.New(rand.NewSource(13))
	safe, unsafe, turned := 0, 0, 0
	for range 30000 {
		d := newDrawer(r, r.Intn(2) == 0)
		l, bound, outside := d.clauses(3), d.some(2), d.some(3)
		if r.Intn(2) == 0 {
			l = append(l, d.clauses(1)...)
		}
		is, places := taken(l, setOf(bound), setOf(outside))
		want := api.OK
		if len(places) < len(l) {
			places, want = nil, api.ErrUnsafe
			unsafe++
		} else if safe++; !slices.IsSorted(places) {
			turned++
		}
		if got, e := Bound(l, bound, outside); e != want || !slices.Equal(got, is.sorted()) {
			t.Fatalf("Bound(%v, %q, %q) = %q, %v, want %q, %v", l, bound, outside, got, e, is.sorted(), want)
		}
		if got, e := Order(l, bound, outside); e != want || !slices.Equal(got, places) {
			t.Fatalf("Order(%v, %q, %q) = %v, %v, want %v, %v", l, bound, outside, got, e, places, want)
		}
		for at := range l {
			if got, shares := Shares(l, at, outside), sharesOf(l, at, setOf(outside)); !slices.Equal(got, shares) {
				t.Fatalf("Shares(%v, %d, %q) = %q, want %q", l, at, outside, got, shares)
			}
		}
		if calls, _ := callsOf(l, false); !equalClauses(Calls(l), calls) {
			t.Fatalf("Calls(%v) = %v, want %v", l, Calls(l), calls)
		}
		all, not := Hangs(api.Rule{Body: l})
		if wantAll, wantNot := hangsOf(api.Rule{Body: l}); !slices.Equal(all, wantAll.sorted()) || !slices.Equal(not, wantNot.sorted()) {
			t.Fatalf("Hangs of %v = %q, %q, want %q, %q", l, all, not, wantAll.sorted(), wantNot.sorted())
		}
	}
	if safe < 5000 || unsafe < 5000 || turned < 1500 {
		t.Errorf("of the lists %d are safe, %d of these turned round, %d not safe: too few", safe, turned, unsafe)
	}
}

// Check and Levels of drawn queries are what the chapter's words say, in whatever order clauses and rules stand.
func TestDrawnQueries(t *testing.T) {
	r := rand.New(rand.NewSource(31))
	had := map[string]int{}
	for range 6000 {
		q := newDrawer(r, r.Intn(20) == 0).query()
		want := errorOf(q)
		var levels []Level
		if want == api.OK {
			if levels = leastLevels(q.Rules); len(levels) == 0 && len(q.Rules) > 0 {
				want = api.ErrStrata
			}
		}
		for range 2 {
			e := Check(q)
			if got, f := Levels(q); e != want || f != want || !slices.Equal(got, levels) {
				s, _ := rule.Print(q)
				t.Fatalf("of %s %v: Check %v, Levels %v, %v, want %v, %v", s, q, e, got, f, levels, want)
			}
			shuffle(r, &q)
		}
		top := 0
		for _, x := range levels {
			top = max(top, x.N)
		}
		had[fmt.Sprint(want, top)]++
	}
	for _, x := range []string{"error 120 0", "error 130 0", "error 131 0", "error 132 0", "error 0 0", "error 0 1", "error 0 2"} {
		if had[x] < 10 {
			t.Errorf("of the queries few are of each kind: %v", had)
		}
	}
}

// shuffle turns round clauses and rules.
func shuffle(r *rand.Rand, q *api.Query) {
	var turn func(l []api.Clause)
	turn = func(l []api.Clause) {
		r.Shuffle(len(l), func(i, j int) { l[i], l[j] = l[j], l[i] })
		for _, c := range l {
			turn(c.Kids)
		}
	}
	turn(q.Where)
	for _, rule := range q.Rules {
		turn(rule.Body)
	}
	r.Shuffle(len(q.Rules), func(i, j int) { q.Rules[i], q.Rules[j] = q.Rules[j], q.Rules[i] })
}

// What follows: in which order clauses stand makes no difference to what is bound; what is bound besides takes nothing away; nor does one clause of facts more, unless more is shared by it; no name hangs by a not on one of its level.
func TestWhatFollows(t *testing.T) {
	r := rand.New(rand.NewSource(5))
	for range 20000 {
		d := newDrawer(r, r.Intn(3) == 0)
		l, bound, outside := d.clauses(3), d.some(2), d.some(2)
		is, e := Bound(l, bound, outside)
		more, f := Bound(l, append(bound, pick(r, d.vars)), outside)
		if e == api.OK && f != api.OK || !setOf(more).all(is) {
			t.Fatalf("Bound(%v, %q, %q) = %q, %v, with one more %q, %v", l, bound, outside, is, e, more, f)
		}
		fact := d.fact()
		longer := append(slices.Clone(l), fact)
		alike := true
		for at, c := range l {
			stays := c.Kind != api.ClauseNot && c.Kind != api.ClauseOr && c.Kind != api.ClauseAnd
			alike = alike && (stays || slices.Equal(Shares(l, at, outside), Shares(longer, at, outside)))
		}
		if _, f := Bound(longer, bound, outside); alike && e == api.OK && f != api.OK {
			t.Fatalf("Bound(%v, %q, %q) is safe, with %v it is not", l, bound, outside, fact)
		}
		q := api.Query{Where: l}
		shuffle(r, &q)
		if again, f := Bound(l, bound, outside); f != e || !slices.Equal(again, is) {
			t.Fatalf("Bound(%v, %q, %q) = %q, %v, turned round %q, %v", l, bound, outside, is, e, again, f)
		}
	}
	for range 5000 {
		q := newDrawer(r, false).query()
		l, _ := Levels(q)
		levels := map[string]int{}
		for _, x := range l {
			levels[x.Name] = x.N
		}
		nots := 0
		for _, rule := range q.Rules {
			_, not := Hangs(rule)
			for _, name := range not {
				if nots++; len(l) > 0 && levels[name] >= levels[rule.Name] {
					t.Fatalf("%s hangs by a not on %s: %v", rule.Name, name, l)
				}
			}
		}
		if slices.ContainsFunc(l, func(x Level) bool { return x.N > 0 }) && nots == 0 {
			t.Fatalf("without a not: %v", l)
		}
	}
}

func ownCopy(l []api.Clause) []api.Clause {
	l = slices.Clone(l)
	for i := range l {
		l[i].Args, l[i].Kids = slices.Clone(l[i].Args), ownCopy(l[i].Kids)
	}
	return l
}

// spoil writes to all lists of clauses, and to the room behind them.
func spoil(l []api.Clause) {
	for _, c := range l {
		_ = append(c.Args, api.Arg{Var: "?room"})
		clear(c.Args)
		spoil(c.Kids)
	}
	_ = append(l, api.Clause{Kind: 99})
	clear(l)
}

// What is handed in is only read, the room behind it with it; what is answered is new memory, and no two lists of it share any.
func TestOnlyRead(t *testing.T) {
	r := rand.New(rand.NewSource(8))
	for range 5000 {
		d := newDrawer(r, true)
		l := append(d.clauses(3), api.Clause{Name: "room"})
		bound, outside := append(d.some(3), "?room"), append(d.some(3), "?room")
		kept, keptBound, keptOutside := ownCopy(l), slices.Clone(bound), slices.Clone(outside)
		n := len(l) - 1
		short, shortBound, shortOutside := l[:n], bound[:len(bound)-1], outside[:len(outside)-1]
		q := api.Query{Rules: []api.Rule{{Name: "f", Args: shortOutside, Body: short}}, Find: []api.Find{{Var: "?a"}}, In: shortBound, With: shortOutside, Where: short}
		Check(q)
		is, _ := Bound(short, shortBound, shortOutside)
		order, _ := Order(short, shortBound, shortOutside)
		shares := Shares(short, 0, shortOutside)
		calls := Calls(short)
		all, not := Hangs(q.Rules[0])
		for _, names := range [][]string{is, shares, all, not} {
			_ = append(names, "?other")
			clear(names)
		}
		again, _ := Bound(short, shortBound, shortOutside)
		if len(again) != len(is) || slices.Contains(again, "?other") {
			t.Fatalf("Bound once more: %v", again)
		}
		_ = append(order, 99)
		clear(order)
		first := ownCopy(calls)
		for i := range calls {
			if !equalClauses(calls[i:], first[i:]) {
				t.Fatalf("calls share memory: %v, %v", calls[i:], first[i:])
			}
			spoil(calls[i : i+1 : i+1])
		}
		if !equalClauses(l, kept) || !slices.Equal(bound, keptBound) || !slices.Equal(outside, keptOutside) {
			t.Fatalf("%v, %q, %q have turned to %v, %q, %q", kept, keptBound, keptOutside, l, bound, outside)
		}
	}
	q := asked(t, "(rule (b ?x) [?x :a _] (not (a ?x))) (rule (a ?x) [?x :a _])"+ask)
	l, _ := Levels(q)
	clear(l)
	if l, _ := Levels(q); read(l) != "a 0, b 1" || q.Rules[0].Name != "b" {
		t.Errorf("Levels once more: %v", l)
	}
}
