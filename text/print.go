package text

import (
	"daybook/api"
	"daybook/value"
)

// appendNodes adds the print of nodes that may be.
func appendNodes(b []byte, l []api.Node) []byte {
	for i, n := range l {
		if i > 0 {
			b = append(b, ' ')
		}
		b = appendNode(b, n)
	}
	return b
}

func appendNode(b []byte, n api.Node) []byte {
	switch n.Kind {
	case api.NodeValue:
		s, _ := value.Text(n.V)
		return append(b, s...)
	case api.NodeName:
		return append(b, n.S...)
	}
	b = append(b, opener(n.Kind))
	b = appendNodes(b, n.Kids)
	return append(b, closer(n.Kind))
}

// opener is the bracket that opens a kind of nodes.
func opener(kind int) byte {
	switch kind {
	case api.NodeList:
		return '('
	case api.NodeVec:
		return '['
	}
	return '{'
}

// closer is the bracket that closes a kind of nodes.
func closer(kind int) byte {
	switch kind {
	case api.NodeList:
		return ')'
	case api.NodeVec:
		return ']'
	}
	return '}'
}
