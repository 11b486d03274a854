package calc

import (
	"maps"
	"slices"
	"strings"
	"testing"

	"daybook/api"
	"daybook/rule"
)

// The names, as the chapter's table has them.
var (
	predicates = map[string]int{"=": 2, "!=": 2, "<": 2, "<=": 2, ">": 2, ">=": 2, "begins": 2, "ends": 2, "has": 2, "kind": 2}
	functions  = map[string]int{"+": 2, "-": 2, "*": 2, "/": 2, "mod": 2, "neg": 1, "abs": 1, "min": 2, "max": 2, "len": 1, "cat": 2, "sub": 3, "text": 1, "value": 1, "number": 1, "time": 1, "name": 1}
)

// strangers are no names, though some look like one.
func strangers() []string {
	return []string{"", " ", "=\x00", "==", " =", "= ", "<>", "=<", "=>", "!", "!==", "%", "**", "//", "begin", "beginss", "Begins", "HAS", "kinds", "add", "plus", "negative", "ab", "absx", "lenn", "sum", "count", "distinct", "least", "greatest", "not", "and", "or", "->", "_", "?x", "min max", "textvalue", strings.Repeat("=", 1<<20)}
}

func TestKnown(t *testing.T) {
	for name, want := range predicates {
		if takes, predicate, is := Known(name); takes != want || !predicate || !is {
			t.Errorf("Known(%s) = %d, %v, %v, want %d, true, true", name, takes, predicate, is, want)
		}
	}
	for name, want := range functions {
		if takes, predicate, is := Known(name); takes != want || predicate || !is {
			t.Errorf("Known(%s) = %d, %v, %v, want %d, false, true", name, takes, predicate, is, want)
		}
	}
	for _, name := range strangers() {
		if takes, predicate, is := Known(name); takes != 0 || predicate || is {
			t.Errorf("Known(%.20q) = %d, %v, %v, want 0, false, false", name, takes, predicate, is)
		}
	}
}

func TestNames(t *testing.T) {
	want := slices.Sorted(maps.Keys(predicates))
	want = slices.AppendSeq(want, maps.Keys(functions))
	slices.Sort(want)
	if got := Names(); !slices.Equal(got, want) {
		t.Errorf("Names() = %v, want %v", got, want)
	}
	if got := strings.Join(Names(), " "); got != "!= * + - / < <= = > >= abs begins cat ends has kind len max min mod name neg number sub text time value" {
		t.Errorf("Names() = %s", got)
	}
}

func TestNamesAreNewMemory(t *testing.T) {
	want, got := Names(), Names()
	got = got[:cap(got)]
	for i := range got {
		got[i] = "spoilt"
	}
	if !slices.Equal(Names(), want) {
		t.Errorf("Names() = %v, once an elder answer is written to", Names())
	}
	if takes, predicate, is := Known("<"); takes != 2 || !predicate || !is {
		t.Error("Known of < turned, once an answer of Names is written to")
	}
}

// What clauses may name (layer 12) is what there is, with as many values.
func TestNamesOfClauses(t *testing.T) {
	for _, name := range append(Names(), "neither") {
		takes, predicate, is := Known(name)
		for n := range 5 {
			c := api.Clause{Kind: api.ClauseDo, Name: name, Args: make([]api.Arg, n), Out: "?x"}
			if predicate {
				c.Kind, c.Out = api.ClauseTest, ""
			}
			for i := range c.Args {
				c.Args[i].V = number(1)
			}
			e := rule.Check(api.Query{Find: []api.Find{{Var: "?x"}}, Where: []api.Clause{c}})
			if (e == api.OK) != (is && n == takes) {
				t.Errorf("a clause of %s and %d values: %v", name, n, e)
			}
		}
	}
}
