package calc

import (
	"strings"

	"daybook/api"
	"daybook/value"
)

// says is what a predicate says of two values.
func says(name string, a, b api.Value) bool {
	switch name {
	case "begins", "ends", "has":
		return a.Kind == b.Kind && hasBytes(a.Kind) && saysOfBytes(name, a.S, b.S)
	case "kind":
		return b.Kind == api.KInt && b.N == int64(a.Kind)
	}
	return saysOfOrder(name, value.Compare(a, b))
}

// hasBytes says whether values of a kind have bytes.
func hasBytes(kind int) bool {
	return kind == api.KText || kind == api.KBytes || kind == api.KWord
}

func saysOfBytes(name, s, piece string) bool {
	switch name {
	case "begins":
		return strings.HasPrefix(s, piece)
	case "ends":
		return strings.HasSuffix(s, piece)
	}
	return strings.Contains(s, piece)
}

// saysOfOrder is what a predicate says of two values that stand so to each other.
func saysOfOrder(name string, stands int) bool {
	switch name {
	case "=":
		return stands == 0
	case "!=":
		return stands != 0
	case "<":
		return stands < 0
	case "<=":
		return stands <= 0
	case ">":
		return stands > 0
	}
	return stands >= 0
}
