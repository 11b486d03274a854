package rule

import (
	"slices"

	"daybook/api"
	"daybook/value"
)

// mayBe says whether a query may be, however deep and great it is.
func mayBe(q api.Query) bool {
	if len(q.Rules) > api.MaxRules {
		return false
	}
	for _, r := range q.Rules {
		if !ruleMayBe(r) {
			return false
		}
	}
	return questionMayBe(q)
}

func ruleMayBe(r api.Rule) bool {
	return kindOf(r.Name) == api.ClauseCall && len(r.Args) > 0 && len(r.Args) <= api.MaxArgs && areVariables(r.Args) &&
		bodyMayBe(r.Body) && fewVariables(r.Body, r.Args)
}

// questionMayBe asks for all of a query but its rules.
func questionMayBe(q api.Query) bool {
	outside := slices.Concat(q.In, q.With)
	for _, f := range q.Find {
		if !findMayBe(f) {
			return false
		}
		if f.Op != count {
			outside = append(outside, f.Var)
		}
	}
	return len(q.Find) > 0 && areVariables(q.In) && areVariables(q.With) && bodyMayBe(q.Where) && fewVariables(q.Where, outside)
}

func findMayBe(f api.Find) bool {
	if f.Op == count {
		return f.Var == ""
	}
	return f.Op >= 0 && f.Op < len(operations) && Variable(f.Var)
}

// areVariables says whether names are variables, each there once.
func areVariables(names []string) bool {
	notOne := func(s string) bool { return !Variable(s) }
	return !slices.ContainsFunc(names, notOne) && len(once(slices.Clone(names))) == len(names)
}

// fewVariables says whether clauses, and variables beside them, have no more than MaxVars in all.
func fewVariables(l []api.Clause, beside []string) bool {
	return len(once(slices.Concat(Vars(l), beside))) <= api.MaxVars
}

// bodyMayBe asks for clauses that stand in a rule, or in Where.
func bodyMayBe(l []api.Clause) bool {
	for c := range told(l) {
		if !clauseMayBe(c) {
			return false
		}
	}
	return someButAnd(l)
}

// someButAnd says whether there are clauses, and no ClauseAnd among them.
func someButAnd(l []api.Clause) bool {
	isAnd := func(c api.Clause) bool { return c.Kind == api.ClauseAnd }
	return len(l) > 0 && !slices.ContainsFunc(l, isAnd)
}

// clauseMayBe asks for a clause by itself, not for those within it.
func clauseMayBe(c api.Clause) bool {
	switch c.Kind {
	case api.ClauseFact:
		return c.Name == "" && c.Out == "" && len(c.Kids) == 0 && factMayBe(c.Args)
	case api.ClauseTest, api.ClauseCall:
		return kindOf(c.Name) == c.Kind && c.Out == "" && len(c.Kids) == 0 && argsMayBe(c)
	case api.ClauseDo:
		return kindOf(c.Name) == c.Kind && Variable(c.Out) && len(c.Kids) == 0 && argsMayBe(c)
	case api.ClauseNot, api.ClauseAnd:
		return c.Name == "" && c.Out == "" && len(c.Args) == 0 && someButAnd(c.Kids)
	case api.ClauseOr:
		return c.Name == "" && c.Out == "" && len(c.Args) == 0 && len(c.Kids) > 0
	}
	return false
}

// factKinds are those of the values in a ClauseFact, by their places: of e, a, v (any), t and op.
var factKinds = [...]int{api.KRef, api.KWord, 0, api.KInt, api.KBool}

// factMayBe asks for the arguments of a ClauseFact.
func factMayBe(l []api.Arg) bool {
	if len(l) < 3 || len(l) > len(factKinds) {
		return false
	}
	for i, a := range l {
		wrongKind := a.Var == "" && factKinds[i] != 0 && factKinds[i] != a.V.Kind
		if !argMayBe(a) || wrongKind {
			return false
		}
	}
	return true
}

// argsMayBe asks for the arguments of a clause that has a Name.
func argsMayBe(c api.Clause) bool {
	wrong := func(a api.Arg) bool { return !argMayBe(a) }
	if c.Kind == api.ClauseCall {
		return len(c.Args) > 0 && len(c.Args) <= api.MaxArgs && !slices.ContainsFunc(c.Args, wrong)
	}
	wrong = func(a api.Arg) bool { return a.Var == anyArg || !argMayBe(a) }
	return len(c.Args) == takes(c.Name) && !slices.ContainsFunc(c.Args, wrong)
}

func argMayBe(a api.Arg) bool {
	if a.Var == "" {
		return value.Check(a.V) == api.OK
	}
	return (a.Var == anyArg || Variable(a.Var)) && a.V == api.Value{}
}
