package text

import (
	"strings"

	"daybook/api"
	"daybook/value"
)

// reader makes nodes of tokens.
type reader struct {
	done []api.Node // those within no bracket
	open []api.Node // the brackets that are open, the outermost first
	size int        // of all nodes
}

// take says whether a token can stand where it stands.
func (r *reader) take(t token) bool {
	switch t.kind {
	case opening:
		if len(r.open) == api.MaxDeep {
			return false
		}
		fallthrough
	case word:
		return r.begin(t)
	case closing:
		return r.close(t.s[0])
	case ending:
		return len(r.open) == 0
	}
	return false
}

// begin takes the first token of a node.
func (r *reader) begin(t token) bool {
	n, ok := nodeOf(t)
	if !ok || r.size == api.MaxNodes {
		return false
	}
	r.size++
	if t.kind == opening {
		r.open = append(r.open, n)
	} else {
		r.add(n)
	}
	return true
}

// close takes the bracket that closes the last one that is open.
func (r *reader) close(bracket byte) bool {
	last := len(r.open) - 1
	if last < 0 || closer(r.open[last].Kind) != bracket {
		return false
	}
	n := r.open[last]
	r.open = r.open[:last]
	r.add(n)
	return true
}

// add puts a node, with all that it has, where it belongs.
func (r *reader) add(n api.Node) {
	if last := len(r.open) - 1; last >= 0 {
		r.open[last].Kids = append(r.open[last].Kids, n)
		return
	}
	r.done = append(r.done, n)
}

// nodeOf is the node that begins with a token, without its kids; it is none, if the token is a word that is neither a value's text nor a name.
func nodeOf(t token) (api.Node, bool) {
	n := api.Node{Line: t.line, Column: t.column}
	if t.kind == opening {
		n.Kind = kindOf(t.s[0])
		return n, true
	}
	if v, e := value.Parse(t.s); e == api.OK {
		n.Kind, n.V = api.NodeValue, v
		return n, true
	}
	n.Kind, n.S = api.NodeName, strings.Clone(t.s)
	return n, Named(t.s)
}

// kindOf is the kind of nodes that a bracket opens.
func kindOf(bracket byte) int {
	switch bracket {
	case opener(api.NodeList):
		return api.NodeList
	case opener(api.NodeVec):
		return api.NodeVec
	}
	return api.NodeMap
}
