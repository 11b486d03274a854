package calc

import (
	"daybook/api"
	"daybook/value"
)

func number(n int64) api.Value { return api.Value{Kind: api.KInt, N: n} }

func text(s string) api.Value { return api.Value{Kind: api.KText, S: s} }

// answer is a function's value, which may be too long; false, if it answers none.
func answer(name string, l []api.Value) (api.Value, bool) {
	switch name {
	case "min", "max":
		return outer(name, l[0], l[1]), true
	case "+", "-", "*", "/", "mod":
		n, is := ofTwo(name, l[0].N, l[1].N)
		return number(n), is && l[0].Kind == api.KInt && l[1].Kind == api.KInt
	case "neg", "abs":
		n, is := ofOne(name, l[0].N)
		return number(n), is && l[0].Kind == api.KInt
	case "cat":
		return api.Value{Kind: l[0].Kind, S: l[0].S + l[1].S}, l[0].Kind == l[1].Kind && isLong(l[0].Kind)
	case "sub":
		return piece(l[0], l[1], l[2])
	}
	return turned(name, l[0])
}

// outer is the one of two values that stands ahead, or behind.
func outer(name string, a, b api.Value) api.Value {
	if (name == "min") == (value.Compare(a, b) < 0) {
		return a
	}
	return b
}

// isLong says whether values of a kind are put together, and taken to pieces.
func isLong(kind int) bool { return kind == api.KText || kind == api.KBytes }

// piece is what stands between two places of a value.
func piece(v, from, to api.Value) (api.Value, bool) {
	if !isLong(v.Kind) || from.Kind != api.KInt || to.Kind != api.KInt {
		return api.Value{}, false
	}
	if from.N < 0 || from.N > to.N || to.N > int64(len(v.S)) {
		return api.Value{}, false
	}
	return api.Value{Kind: v.Kind, S: v.S[from.N:to.N]}, true
}

// turned is a value told as one of another kind.
func turned(name string, v api.Value) (api.Value, bool) {
	switch name {
	case "len":
		return number(int64(len(v.S))), hasBytes(v.Kind)
	case "text":
		s, e := value.Text(v)
		return text(s), e == api.OK
	case "value":
		read, e := value.Parse(v.S)
		return read, e == api.OK && v.Kind == api.KText
	case "number":
		return number(v.N), v.Kind == api.KTime || v.Kind == api.KBool || v.Kind == api.KRef
	case "time":
		return api.Value{Kind: api.KTime, N: v.N}, v.Kind == api.KInt
	}
	return text(v.S), v.Kind == api.KWord
}
