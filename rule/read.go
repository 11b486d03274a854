package rule

import "daybook/api"

// look takes what a part of a node says, and answers whether it can be of those that stand there.
type look func(part api.Node) bool

// taking is a look that reads parts one by one, and adds them to a list.
func taking[T any](into *[]T, read func(api.Node) (T, bool)) look {
	return func(part api.Node) bool {
		x, is := read(part)
		*into = append(*into, x)
		return is
	}
}

// all looks at parts up to the first one that cannot stand there, and says whether there is none.
func (at look) all(parts []api.Node) bool {
	for _, part := range parts {
		if !at(part) {
			return false
		}
	}
	return true
}

// split tells the name that a list begins with, and what stands behind it. Other nodes have no name.
func split(n api.Node) (string, []api.Node) {
	if n.Kind != api.NodeList || len(n.Kids) == 0 {
		return "", nil
	}
	return n.Kids[0].S, n.Kids[1:]
}

// readRule is the rule that a top node says, if that may be.
func readRule(n api.Node) (r api.Rule, is bool) {
	name, parts := split(n)
	if name != "rule" || len(parts) == 0 {
		return r, false
	}
	var args []api.Node
	r.Name, args = split(parts[0])
	is = taking(&r.Args, readName).all(args) && taking(&r.Body, readClause).all(parts[1:]) && ruleMayBe(r)
	return r, is
}

// section is one of a query's lists: its name, and how what stands behind that is looked at.
type section struct {
	name string
	look look
}

// readQuestion is the query, without rules, that a top node says, if that may be.
func readQuestion(n api.Node) (q api.Query, is bool) {
	name, lists := split(n)
	sections := []section{
		{"find", taking(&q.Find, readFind)},
		{"in", taking(&q.In, readName)},
		{"with", taking(&q.With, readName)},
		{"where", taking(&q.Where, readClause)},
	}
	is = name == "query" && readSections(lists, sections) && questionMayBe(q)
	return q, is
}

// readSections looks at lists that stand in the order of sections, and says whether all of them can stand there. A section may be left out, but not be empty: which ones a query has to have is left to questionMayBe.
func readSections(lists []api.Node, sections []section) bool {
reading:
	for _, s := range sections {
		if len(lists) == 0 {
			break reading
		}
		switch name, parts := split(lists[0]); {
		case name != s.name:
			continue reading
		case len(parts) == 0 || !s.look.all(parts):
			break reading
		}
		lists = lists[1:]
	}
	return len(lists) == 0
}

// readClause is the clause that a node says. What of it may not be, though it can be said, is left to clauseMayBe.
func readClause(n api.Node) (c api.Clause, is bool) {
	args := taking(&c.Args, readArg)
	if n.Kind == api.NodeVec {
		c.Kind = api.ClauseFact
		is = args.all(n.Kids)
		return c, is
	}
	name, parts := split(n)
	c.Kind = kindOf(name)
	switch c.Kind {
	case api.ClauseNot, api.ClauseOr, api.ClauseAnd:
		is = taking(&c.Kids, readClause).all(parts)
		return c, is
	case api.ClauseDo:
		last := len(parts) - 1
		if last < 1 || parts[last-1].S != arrow {
			return c, false
		}
		c.Out = parts[last].S
		parts = parts[:last-1]
	}
	c.Name = name
	is = args.all(parts)
	return c, is
}

func readName(n api.Node) (string, bool) { return n.S, n.Kind == api.NodeName }

func readArg(n api.Node) (api.Arg, bool) {
	return api.Arg{Var: n.S, V: n.V}, n.Kind == api.NodeName || n.Kind == api.NodeValue
}

func readFind(n api.Node) (api.Find, bool) {
	if n.Kind == api.NodeName {
		return api.Find{Var: n.S}, true
	}
	name, parts := split(n)
	f := api.Find{Op: opOf(name)}
	if f.Op == count {
		return f, len(parts) == 0
	}
	if len(parts) != 1 {
		return f, false
	}
	f.Var = parts[0].S
	return f, f.Op > 0
}
