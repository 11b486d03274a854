package rule

import (
	"daybook/api"
	"daybook/text"
)

const (
	anyArg = "_"  // the Var of an argument that is any
	arrow  = "->" // stands ahead of Out
)

// kindOf is the kind of the clause whose list begins with a name; 0, if there is none.
func kindOf(name string) int {
	switch name {
	case "=", "!=", "<", "<=", ">", ">=", "begins", "ends", "has", "kind":
		return api.ClauseTest
	case "+", "-", "*", "/", "mod", "min", "max", "cat", "neg", "abs", "len", "text", "value", "number", "time", "name", "sub":
		return api.ClauseDo
	case "not":
		return api.ClauseNot
	case "or":
		return api.ClauseOr
	case "and":
		return api.ClauseAnd
	case anyArg, arrow, "rule", "query", "find", "in", "with", "where", "count", "distinct", "sum", "least", "greatest":
		return 0
	}
	if !text.Named(name) || name[0] == '?' {
		return 0
	}
	return api.ClauseCall
}

// takes is how many values a predicate takes, or a function.
func takes(name string) int {
	switch name {
	case "neg", "abs", "len", "text", "value", "number", "time", "name":
		return 1
	case "sub":
		return 3
	}
	return 2
}

// count is the operation that asks for no variable.
const count = 1

// operations are the names of Find's, by their Ops.
var operations = [...]string{count: "count", 2: "distinct", 3: "sum", 4: "least", 5: "greatest"}

// opOf is the operation of a name; 0, if there is none.
func opOf(name string) int {
	for op, s := range operations {
		if s == name {
			return op
		}
	}
	return 0
}
