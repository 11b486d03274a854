package rule

import (
	"math/rand"
	"regexp"
	"slices"
	"strings"
	"testing"

	"daybook/api"
	"daybook/text"
	"daybook/value"
)

// pick is one of some.
func pick[T any](r *rand.Rand, l []T) T { return l[r.Intn(len(l))] }

// drawer draws queries that may be.
type drawer struct {
	*rand.Rand
	vars []string
}

func newDrawer(r *rand.Rand) drawer {
	most := pick(r, []int{1, 3, 5, 5, 40})
	return drawer{r, variables(r.Intn(3), 1+r.Intn(most))}
}

func (d drawer) variable() string { return pick(d.Rand, d.vars) }

// value is one that has no blank, bracket or question mark in its text.
func (d drawer) value() api.Value {
	return pick(d.Rand, []api.Value{{Kind: api.KInt, N: -5}, {Kind: api.KInt}, {Kind: api.KBool, N: 1}, str("a"), {Kind: api.KBytes, S: "\xff"}, ref(7), {Kind: api.KTime, N: 9}, word("a/b")})
}

// args are so many, of which some are any, if they may be.
func (d drawer) args(n int, anys bool) []api.Arg {
	var l []api.Arg
	for range n {
		switch d.Intn(5) {
		case 0, 1, 2:
			l = append(l, arg(d.variable()))
		case 3:
			if anys {
				l = append(l, arg("_"))
				continue
			}
			fallthrough
		default:
			l = append(l, arg(d.value()))
		}
	}
	return l
}

func (d drawer) fact() api.Clause {
	l := d.args(3+d.Intn(3), true)
	for i, kind := range []int{api.KRef, api.KWord, 0, api.KInt, api.KBool}[:len(l)] {
		for l[i].Var == "" && kind != 0 && l[i].V.Kind != kind {
			l[i].V = d.value()
		}
	}
	return api.Clause{Kind: api.ClauseFact, Args: l}
}

func (d drawer) clause(deep int) api.Clause {
	kind := 1 + d.Intn(6)
	if deep == 0 {
		kind = 1 + d.Intn(4)
	}
	c := api.Clause{Kind: kind}
	switch kind {
	case api.ClauseFact:
		return d.fact()
	case api.ClauseTest:
		c.Name, c.Args = pick(d.Rand, predicates()), d.args(2, false)
	case api.ClauseDo:
		n := 1 + d.Intn(3)
		c.Name, c.Args, c.Out = pick(d.Rand, functions(n)), d.args(n, false), d.variable()
	case api.ClauseCall:
		c.Name, c.Args = pick(d.Rand, ruleNames()), d.args(1+d.Intn(pick(d.Rand, []int{2, 4, 16})), true)
	case api.ClauseNot:
		c.Kids = d.clauses(deep - 1)
	case api.ClauseOr:
		c.Kids = d.clauses(deep - 1)
		for i := range c.Kids {
			if d.Intn(2) == 0 {
				c.Kids[i] = and(d.clauses(deep - 1)...)
			}
		}
	}
	return c
}

func (d drawer) clauses(deep int) []api.Clause {
	var l []api.Clause
	for range 1 + d.Intn(3) {
		l = append(l, d.clause(max(deep, 0)))
	}
	return l
}

// some are variables, each once.
func (d drawer) some(most int) []string {
	l := slices.Clone(d.vars)
	d.Shuffle(len(l), func(i, j int) { l[i], l[j] = l[j], l[i] })
	return l[:min(d.Intn(most+1), len(l))]
}

// query is one that may be, but that it may have too many variables.
func (d drawer) query() api.Query {
	q := api.Query{In: d.some(2), With: d.some(2), Where: d.clauses(3)}
	for range d.Intn(4) {
		names := d.some(pick(d.Rand, []int{2, 2, 16}))
		if len(names) == 0 {
			names = d.vars[:1]
		}
		q.Rules = append(q.Rules, api.Rule{Name: pick(d.Rand, ruleNames()), Args: names, Body: d.clauses(3)})
	}
	for range 1 + d.Intn(4) {
		f := api.Find{Op: d.Intn(6), Var: d.variable()}
		if f.Op == 1 {
			f.Var = ""
		}
		q.Find = append(q.Find, f)
	}
	return q
}

// spelledArg is what stands for an argument in a text.
func spelledArg(a api.Arg) string {
	if a.Var != "" {
		return a.Var
	}
	s, _ := value.Text(a.V)
	return s
}

// spelledClause is a clause as the chapter writes it.
func spelledClause(c api.Clause) string {
	words := []string{c.Name}
	if i := c.Kind - api.ClauseNot; i >= 0 && i < 3 {
		words[0] = []string{"not", "or", "and"}[i]
		return "(" + strings.Join(append(words, spelled(c.Kids, spelledClause)...), " ") + ")"
	}
	words = append(words, spelled(c.Args, spelledArg)...)
	switch c.Kind {
	case api.ClauseFact:
		return "[" + strings.Join(words[1:], " ") + "]"
	case api.ClauseDo:
		words = append(words, "->", c.Out)
	}
	return "(" + strings.Join(words, " ") + ")"
}

// spelled are some things, one by one.
func spelled[T any](l []T, one func(T) string) []string {
	var all []string
	for _, x := range l {
		all = append(all, one(x))
	}
	return all
}

// spell writes a query as the chapter says, whether it may be or not.
func spell(q api.Query) string {
	var b strings.Builder
	for _, r := range q.Rules {
		b.WriteString("(rule (" + strings.Join(append([]string{r.Name}, r.Args...), " ") + ") " + strings.Join(spelled(r.Body, spelledClause), " ") + ")\n")
	}
	b.WriteString("(query (find")
	for _, f := range q.Find {
		if f.Op == 0 {
			b.WriteString(" " + f.Var)
		} else if f.Op < 0 || f.Op > 5 {
			b.WriteString(" ()")
		} else {
			b.WriteString(" (" + strings.TrimSpace([]string{"count", "distinct", "sum", "least", "greatest"}[f.Op-1]+" "+f.Var) + ")")
		}
	}
	if len(q.In) > 0 {
		b.WriteString(") (in " + strings.Join(q.In, " "))
	}
	if len(q.With) > 0 {
		b.WriteString(") (with " + strings.Join(q.With, " "))
	}
	b.WriteString(") (where " + strings.Join(spelled(q.Where, spelledClause), " ") + "))\n")
	return b.String()
}

// coded tells a node by its shape alone: a letter for each word, of a value by its kind, of a name by what it is for.
func coded(n api.Node) string {
	switch n.Kind {
	case api.NodeValue:
		return string(".IBTTRTW"[n.V.Kind])
	case api.NodeName:
		const words = "_ -> not or and rule query find in with where count distinct sum least greatest"
		switch i := slices.Index(strings.Fields(words), n.S); {
		case i >= 0:
			return "_>noarqfiwhcgggg"[i : i+1]
		case slices.Contains(predicates(), n.S):
			return "P"
		case slices.Contains(functions(1), n.S):
			return "1"
		case slices.Contains(functions(2), n.S):
			return "2"
		case n.S == "sub":
			return "3"
		case n.S == "?":
			return "X"
		case n.S[0] == '?':
			return "V"
		}
		return "N"
	}
	s := "([{"[n.Kind-api.NodeList : n.Kind-api.NodeList+1]
	for _, kid := range n.Kids {
		s += coded(kid)
	}
	return s + ")]}"[n.Kind-api.NodeList:n.Kind-api.NodeList+1]
}

var (
	// A clause without others in it, or with such as were told already, becomes a C; an and a D.
	aClause = regexp.MustCompile(strings.NewReplacer("A", "[VIBTRW]").Replace(`\[[V_R][V_W](?:A|_)(?:[V_I][V_B]?)?\]|\((?:PAA|1A>V|2AA>V|3AAA>V|N(?:A|_){1,16}|nC+|o[CD]+)\)`))
	anAnd   = regexp.MustCompile(`\(aC+\)`)
	aRule   = regexp.MustCompile(`^\(r\(NV{1,16}\)(.*)\)$`)
	aQuery  = regexp.MustCompile(`^\(q\(f(?:V|\(c\)|\(gV\))+\)(?:\(iV+\))?(?:\(wV+\))?\(h(.*)\)\)$`)
	clauses = regexp.MustCompile(`^C+$`)
)

// isBody says whether what was coded is clauses, by taking together what is one, from within.
func isBody(s string) bool {
	for {
		next := anAnd.ReplaceAllString(aClause.ReplaceAllString(s, "C"), "D")
		if next == s {
			return clauses.MatchString(s)
		}
		s = next
	}
}

// variablesOf are those within a node, in order, as often as they are there.
func variablesOf(n api.Node) []string {
	if n.Kind == api.NodeName && n.S[0] == '?' && n.S != "?" {
		return []string{n.S}
	}
	var l []string
	for _, kid := range n.Kids {
		l = append(l, variablesOf(kid)...)
	}
	return l
}

// times are how many unlike ones there are, and how many in all.
func times(l []string) (unlike, all int) {
	set := map[string]bool{}
	for _, s := range l {
		set[s] = true
	}
	return len(set), len(l)
}

// isRule and isQuery say whether a node can be a rule, or the query, by its shape, and by what its variables are.
func isRule(n api.Node) bool {
	m := aRule.FindStringSubmatch(coded(n))
	if m == nil || !isBody(m[1]) {
		return false
	}
	unlike, all := times(variablesOf(n.Kids[1]))
	few, _ := times(variablesOf(n))
	return unlike == all && few <= 30
}

func isQuery(n api.Node) bool {
	m := aQuery.FindStringSubmatch(coded(n))
	if m == nil || !isBody(m[1]) {
		return false
	}
	for _, kid := range n.Kids[1:] {
		if s := kid.Kids[0].S; s == "in" || s == "with" {
			if unlike, all := times(variablesOf(kid)); unlike != all {
				return false
			}
		}
	}
	few, _ := times(variablesOf(n))
	return few <= 30
}

// faultOf is the first top node that cannot stand where it stands; -1, if there is none.
func faultOf(nodes []api.Node) int {
	for i, n := range nodes {
		last := i == len(nodes)-1
		if last && !isQuery(n) || !last && (!isRule(n) || i >= 200) {
			return i
		}
	}
	return -1
}

// pieces are nodes that may come to stand anywhere.
func pieces() []api.Node {
	l, _, _, e := text.Parse(`?0 ?1 ?9 _ ? a -> + neg sub = count sum find rule 5 true "a" @7 :a !5 () [] {} (a ?0) (not) (or (and (a 1))) (and (a ?1)) (= ?0 1) (+ 1 2 -> ?1) [?0 :a _] (count) (sum ?0) (in ?1) (with ?0) (in) (find ?0) (where (a ?2)) (rule (a ?0) (a ?0)) (query (find ?0) (where (a ?0)))`)
	if e != api.OK {
		panic(e)
	}
	return l
}

// turned are nodes with something of them put elsewhere, left out, said twice, or exchanged.
func turned(r *rand.Rand, l []api.Node, pieces []api.Node) []api.Node {
	l = slices.Clone(l)
	i, j := r.Intn(len(l)+1), r.Intn(len(l)+1)
	if i < len(l) && l[i].Kind >= api.NodeList && r.Intn(8) > 0 {
		if r.Intn(40) == 0 {
			l[i].Kind = api.NodeList + r.Intn(3)
		}
		l[i].Kids = turned(r, l[i].Kids, pieces)
		return l
	}
	switch within := i < len(l) && j < len(l); {
	case !within:
		return slices.Insert(l, min(i, len(l)), pick(r, append(l, pieces...)))
	case r.Intn(4) == 0:
		l[i], l[j] = l[j], l[i]
	case r.Intn(3) == 0:
		return slices.Delete(l, i, i+1)
	case r.Intn(4) == 0:
		l[i] = l[j]
	default:
		l[i] = pick(r, pieces)
	}
	return l
}

// Texts of nodes to which something was done, held against their shapes; what is read of them, against what is spelled of it.
func TestParseByShapes(t *testing.T) {
	all := pieces()
	r := rand.New(rand.NewSource(1))
	told := [3]int{}
	for range 16000 {
		nodes, _, _, _ := text.Parse(spell(newDrawer(r).query()))
		for range r.Intn(4) {
			nodes = turned(r, nodes, all)
		}
		s, e := text.Lines(nodes)
		if e != api.OK {
			t.Fatal(e)
		}
		q, line, column, e := Parse(s)
		switch at := faultOf(nodes); {
		case len(nodes) == 0:
			if e != api.ErrQuery || line != 1 || column != 1 || !equal(q, api.Query{}) {
				t.Fatalf("Parse(%q) = %v, %d, %d, %v", s, q, line, column, e)
			}
		case at >= 0:
			told[min(at, 1)]++
			if e != api.ErrQuery || line != at+1 || column != 1 || !equal(q, api.Query{}) {
				t.Fatalf("Parse(%q) = %v, %d, %d, %v, want ErrQuery at %d:1", s, q, line, column, e, at+1)
			}
		default:
			told[2]++
			if e != api.OK || line != 0 || column != 0 || spell(q) != s {
				t.Fatalf("Parse(%q) = %v, %d, %d, %v, which is spelled %q", s, q, line, column, e, spell(q))
			}
			accepted(t, q)
		}
	}
	if min(told[0], told[1], told[2]) < 3000 {
		t.Errorf("%v texts have their fault in the first node, behind it, and nowhere", told)
	}
}

// copied are clauses with lists of their own.
func copied(l []api.Clause) []api.Clause {
	l = slices.Clone(l)
	for i := range l {
		l[i].Args, l[i].Kids = slices.Clone(l[i].Args), copied(l[i].Kids)
	}
	return l
}

// ownCopy is a query with lists of its own.
func ownCopy(q api.Query) api.Query {
	q.Rules, q.Find, q.In, q.With, q.Where = slices.Clone(q.Rules), slices.Clone(q.Find), slices.Clone(q.In), slices.Clone(q.With), copied(q.Where)
	for i := range q.Rules {
		q.Rules[i].Args, q.Rules[i].Body = slices.Clone(q.Rules[i].Args), copied(q.Rules[i].Body)
	}
	return q
}

// turnClauses does something to one of some clauses, or to the list of them.
func turnClauses(r *rand.Rand, l []api.Clause) []api.Clause {
	if len(l) == 0 || r.Intn(12) == 0 {
		return append(l, pick(r, where(call("a", "?0"), and(call("a", 1)), api.Clause{}, or(and(test("<", 1, 2))), not())))
	}
	if r.Intn(12) == 0 {
		return slices.Delete(l, 0, 1+r.Intn(len(l)))
	}
	c := &l[r.Intn(len(l))]
	if len(c.Kids) > 0 && r.Intn(4) > 0 {
		c.Kids = turnClauses(r, c.Kids)
		return l
	}
	switch r.Intn(8) {
	case 0:
		c.Kind = r.Intn(9)
	case 1:
		c.Name = pick(r, slices.Concat([]string{""}, predicates(), allFunctions(), taken(), ruleNames(), noNames()))
	case 2:
		c.Out = pick(r, append(wrongVariables(), "?0", "?1"))
	case 3:
		c.Args = slices.Delete(c.Args, 0, min(1, len(c.Args)))
	case 4:
		c.Args = append(c.Args, pick(r, append(wrongArgs(), arg("?0"), arg("_"), arg(1), arg(true), arg(ref(1)), arg(word("a")))))
	case 5, 6:
		if len(c.Args) > 0 {
			c.Args[r.Intn(len(c.Args))] = pick(r, append(wrongArgs(), arg("?0"), arg("_"), arg(1), arg(true), arg(ref(1)), arg(word("a"))))
		}
	case 7:
		c.Kids = turnClauses(r, c.Kids)
	}
	return l
}

func turnNames(r *rand.Rand, l []string) []string {
	if len(l) == 0 || r.Intn(3) == 0 {
		return append(l, pick(r, append(wrongVariables(), "?0", "?1", "?2")))
	}
	if r.Intn(2) == 0 {
		return l[1:]
	}
	l[r.Intn(len(l))] = pick(r, append(wrongVariables(), "?0", "?1", "?2"))
	return l
}

// turnQuery does something to a query, in place.
func turnQuery(r *rand.Rand, q *api.Query) {
	switch i := r.Intn(10); {
	case i < 3 && len(q.Rules) > 0:
		rule := &q.Rules[r.Intn(len(q.Rules))]
		switch r.Intn(6) {
		case 0:
			rule.Name = pick(r, slices.Concat(predicates(), allFunctions(), taken(), ruleNames(), noNames()))
		case 1:
			rule.Args = turnNames(r, rule.Args)
		default:
			rule.Body = turnClauses(r, rule.Body)
		}
	case i == 3:
		if len(q.Find) > 0 {
			f := &q.Find[r.Intn(len(q.Find))]
			f.Op, f.Var = r.Intn(9)-1, pick(r, append(wrongVariables(), "", "?0", "?1"))
		}
	case i == 4:
		q.Find = q.Find[r.Intn(len(q.Find)+1):]
	case i == 5:
		q.In = turnNames(r, q.In)
	case i == 6:
		q.With = turnNames(r, q.With)
	default:
		q.Where = turnClauses(r, q.Where)
	}
}

// Queries to which something was done may be just if they are the query of their text.
func TestCheckByTexts(t *testing.T) {
	r := rand.New(rand.NewSource(2))
	told := [2]int{}
	for range 20000 {
		q := ownCopy(newDrawer(r).query())
		for range r.Intn(4) {
			turnQuery(r, &q)
		}
		s := spell(q)
		back, _, _, e := Parse(s)
		if e == api.OK && equal(back, q) {
			told[1]++
			accepted(t, q)
			if got, _ := Print(q); got != s {
				t.Fatalf("Print(%v) = %q, want %q", q, got, s)
			}
			continue
		}
		told[0]++
		rejected(t, q)
	}
	if min(told[0], told[1]) < 4000 {
		t.Errorf("%d queries may not be, %d may be", told[0], told[1])
	}
}

// Queries are the same just if they are spelled so.
func TestSame(t *testing.T) {
	r := rand.New(rand.NewSource(3))
	told := [2]int{}
	for range 8000 {
		d := newDrawer(r)
		d.vars = d.vars[:min(len(d.vars), 5)]
		a := d.query()
		b := ownCopy(a)
		for range r.Intn(3) {
			turnQuery(r, &b)
		}
		want := Check(a) == api.OK && Check(b) == api.OK && equal(a, b)
		if Same(a, b) != want || Same(b, a) != want {
			t.Fatalf("Same of %v and %v is not %v", a, b, want)
		}
		if Check(a) == api.OK && Check(b) == api.OK {
			told[map[bool]int{false: 0, true: 1}[want]]++
		}
	}
	if min(told[0], told[1]) < 500 {
		t.Errorf("%v queries are not the same, and are", told)
	}
	a := ruled(rule("a", "?x", call("b", 1)), rule("b", "?x", call("b", 2)))
	b := ownCopy(a)
	b.Rules[0], b.Rules[1] = b.Rules[1], b.Rules[0]
	if Same(a, b) || !Same(a, ownCopy(a)) || Same(simple(call("a", 1), call("b", 1)), simple(call("b", 1), call("a", 1))) {
		t.Error("the order of rules, or of clauses, makes no difference")
	}
}

// Vars are the variables of the clauses' text.
func TestVarsOfTexts(t *testing.T) {
	r := rand.New(rand.NewSource(4))
	name := regexp.MustCompile(`\?[0-9]+`)
	for range 20000 {
		l := newDrawer(r).clauses(3)
		want := name.FindAllString(strings.Join(spelled(l, spelledClause), " "), -1)
		slices.Sort(want)
		if got := Vars(l); !slices.Equal(got, slices.Compact(want)) {
			t.Fatalf("Vars(%v) = %v, want %v", l, got, want)
		}
	}
}

// spoil writes to all lists of a query, and to the room behind them.
func spoil(q api.Query) {
	var clauses func(l []api.Clause)
	clauses = func(l []api.Clause) {
		for _, c := range l {
			_ = append(c.Args, arg("?room"))
			clear(c.Args)
			clauses(c.Kids)
		}
		_ = append(l, api.Clause{Kind: 99})
		clear(l)
	}
	for _, r := range q.Rules {
		_ = append(r.Args, "?room")
		clear(r.Args)
		clauses(r.Body)
	}
	_ = append(q.Rules, api.Rule{Name: "room"})
	_, _, _ = append(q.Find, api.Find{Op: 9}), append(q.In, "?room"), append(q.With, "?room")
	clauses(q.Where)
	clear(q.Rules)
	clear(q.Find)
	clear(q.In)
	clear(q.With)
}

// growsApart goes on with one list of a query after another one, and tells whether that leaves the query as it was.
func growsApart(q api.Query) bool {
	kept := ownCopy(q)
	var clauses func(l []api.Clause)
	clauses = func(l []api.Clause) {
		_ = append(l, api.Clause{Kind: 99})
		for _, c := range l {
			_ = append(c.Args, arg("?room"))
			clauses(c.Kids)
		}
	}
	_, _, _, _ = append(q.Rules, api.Rule{Name: "room"}), append(q.Find, api.Find{Op: 9}), append(q.In, "?room"), append(q.With, "?room")
	for _, r := range q.Rules {
		_ = append(r.Args, "?room")
		clauses(r.Body)
	}
	clauses(q.Where)
	return equal(q, kept)
}

// What is handed in is only read, the room behind it with it; what is answered is new memory, and no two lists of it share any.
func TestOnlyRead(t *testing.T) {
	r := rand.New(rand.NewSource(5))
	for range 2000 {
		q := newDrawer(r).query()
		q.In = append(q.In, "?b", "?a")[:len(q.In)]
		q.Where = append(q.Where, call("z", "?z"))[:len(q.Where)]
		kept, room := ownCopy(q), q.Where[:len(q.Where)+1]
		behind := room[len(q.Where)]
		s, _ := Print(q)
		e := Check(q)
		Same(q, q)
		vars := Vars(q.Where)
		_ = append(vars, "?room")
		clear(vars)
		if !equal(q, kept) || !equalClauses(room[len(q.Where):], where(behind)) || (e == api.OK) != (s != "") {
			t.Fatalf("%v has turned to %v", kept, q)
		}
		back, _, _, _ := Parse(s)
		if !growsApart(back) {
			t.Fatalf("lists of Parse(%q) share memory", s)
		}
		spoil(back)
		if again, _, _, _ := Parse(s); e == api.OK && !equal(again, kept) || !equal(q, kept) {
			t.Fatalf("Parse(%q) is %v once more", s, again)
		}
	}
}

// In which order names are handed in makes no difference to them.
func TestNamesAreNotSorted(t *testing.T) {
	q := api.Query{Rules: []api.Rule{{Name: "a", Args: []string{"?b", "?a"}, Body: where(call("a", "?d", "?c"))}}, Find: finds("?z", "?y"), In: []string{"?f", "?e"}, With: []string{"?h", "?g"}, Where: where(call("a", "?x", "?w"))}
	kept := ownCopy(q)
	accepted(t, q)
	if !equal(q, kept) {
		t.Errorf("%v has turned to %v", kept, q)
	}
}
