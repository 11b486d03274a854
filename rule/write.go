package rule

import "daybook/api"

// nodesOf are the nodes of a query's text.
func nodesOf(q api.Query) []api.Node {
	return append(each(q.Rules, ruleNode), questionNode(q))
}

// each makes a node of each of some things.
func each[T any](l []T, node func(T) api.Node) []api.Node {
	var nodes []api.Node
	for _, x := range l {
		nodes = append(nodes, node(x))
	}
	return nodes
}

func ruleNode(r api.Rule) api.Node {
	n := listNode("rule", []api.Node{listNode(r.Name, each(r.Args, nameNode))})
	n.Kids = append(n.Kids, each(r.Body, clauseNode)...)
	return n
}

func questionNode(q api.Query) api.Node {
	lists := []api.Node{listNode("find", each(q.Find, findNode))}
	if len(q.In) > 0 {
		lists = append(lists, listNode("in", each(q.In, nameNode)))
	}
	if len(q.With) > 0 {
		lists = append(lists, listNode("with", each(q.With, nameNode)))
	}
	lists = append(lists, listNode("where", each(q.Where, clauseNode)))
	return listNode("query", lists)
}

func findNode(f api.Find) api.Node {
	switch f.Op {
	case 0:
		return nameNode(f.Var)
	case count:
		return listNode(operations[f.Op], nil)
	}
	return listNode(operations[f.Op], []api.Node{nameNode(f.Var)})
}

func clauseNode(c api.Clause) api.Node {
	behind := each(c.Args, argNode)
	switch c.Kind {
	case api.ClauseFact:
		return api.Node{Kind: api.NodeVec, Kids: behind}
	case api.ClauseDo:
		behind = append(behind, nameNode(arrow), nameNode(c.Out))
	case api.ClauseNot:
		return listNode("not", each(c.Kids, clauseNode))
	case api.ClauseOr:
		return listNode("or", each(c.Kids, clauseNode))
	case api.ClauseAnd:
		return listNode("and", each(c.Kids, clauseNode))
	}
	return listNode(c.Name, behind)
}

func argNode(a api.Arg) api.Node {
	if a.Var == "" {
		return api.Node{Kind: api.NodeValue, V: a.V}
	}
	return nameNode(a.Var)
}

func nameNode(s string) api.Node { return api.Node{Kind: api.NodeName, S: s} }

// listNode is a list of a name, and of what stands behind it.
func listNode(name string, behind []api.Node) api.Node {
	return api.Node{Kind: api.NodeList, Kids: append([]api.Node{nameNode(name)}, behind...)}
}
