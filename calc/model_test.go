package calc

import (
	"math/big"
	"math/rand"
	"slices"
	"testing"

	"daybook/api"
	"daybook/value"
)

// The model goes by the chapter's words: numbers have no end, and bytes are held against each other one by one.

// modelTest is what a predicate says.
func modelTest(name string, a, b api.Value) bool {
	ahead := func(a, b api.Value) bool { return a != b && value.Sorted([]api.Value{a, b})[0] == a }
	at := func(place int) bool {
		if a.Kind != b.Kind || !slices.Contains([]int{api.KText, api.KBytes, api.KWord}, a.Kind) || place < 0 || place+len(b.S) > len(a.S) {
			return false
		}
		for i := range len(b.S) {
			if a.S[place+i] != b.S[i] {
				return false
			}
		}
		return true
	}
	switch name {
	case "=":
		return a == b
	case "!=":
		return a != b
	case "<":
		return ahead(a, b)
	case ">":
		return ahead(b, a)
	case "<=":
		return ahead(a, b) || a == b
	case ">=":
		return ahead(b, a) || a == b
	case "begins":
		return at(0)
	case "ends":
		return at(len(a.S) - len(b.S))
	case "has":
		for place := range len(a.S) + 1 {
			if at(place) {
				return true
			}
		}
		return false
	case "kind":
		return b == number(int64(a.Kind))
	}
	panic(name)
}

// modelNumber is what numbers make, if it is one from -2^63 to 2^63 - 1.
func modelNumber(name string, l []api.Value) (api.Value, bool) {
	var b [2]*big.Int
	for i, v := range l {
		if v.Kind != api.KInt {
			return api.Value{}, false
		}
		b[i] = big.NewInt(v.N)
	}
	n, of := new(big.Int), new(big.Int)
	switch name {
	case "+":
		n.Add(b[0], b[1])
	case "-":
		n.Sub(b[0], b[1])
	case "*":
		n.Mul(b[0], b[1])
	case "neg":
		n.Neg(b[0])
	case "abs":
		n.Abs(b[0])
	case "/", "mod":
		if b[1].Sign() == 0 {
			return api.Value{}, false
		}
		of.Quo(b[0], b[1])
		if !of.IsInt64() {
			return api.Value{}, false
		}
		n = of
		if name == "mod" {
			n = new(big.Int).Sub(b[0], new(big.Int).Mul(of, b[1]))
		}
	default:
		panic(name)
	}
	if !n.IsInt64() {
		return api.Value{}, false
	}
	return number(n.Int64()), true
}

// modelBytes is what is made of values' bytes.
func modelBytes(name string, l []api.Value) (api.Value, bool) {
	v := l[0]
	textual := v.Kind == api.KText || v.Kind == api.KBytes
	made := api.Value{Kind: v.Kind}
	switch name {
	case "len":
		return number(int64(len(v.S))), textual || v.Kind == api.KWord
	case "name":
		return kText(v.S), v.Kind == api.KWord
	case "text":
		s, _ := value.Text(v)
		return kText(s), len(s) <= api.MaxText
	case "value":
		made, e := value.Parse(v.S)
		return made, v.Kind == api.KText && e == api.OK
	case "cat":
		made.S = v.S + l[1].S
		return made, textual && v.Kind == l[1].Kind && len(made.S) <= api.MaxText
	case "sub":
		if !textual || l[1].Kind != api.KInt || l[2].Kind != api.KInt {
			return api.Value{}, false
		}
		from, to := l[1].N, l[2].N
		if !(0 <= from && from <= to && to <= int64(len(v.S))) {
			return api.Value{}, false
		}
		for i := range int64(len(v.S)) {
			if from <= i && i < to {
				made.S += v.S[i : i+1]
			}
		}
		return made, true
	}
	panic(name)
}

// modelDo is what a function answers.
func modelDo(name string, l []api.Value) (v api.Value, is bool) {
	switch name {
	case "+", "-", "*", "/", "mod", "neg", "abs":
		v, is = modelNumber(name, l)
	case "len", "name", "text", "value", "cat", "sub":
		v, is = modelBytes(name, l)
	case "min":
		v, is = value.Sorted(l)[0], true
	case "max":
		both := value.Sorted(l)
		v, is = both[len(both)-1], true
	case "number":
		v, is = number(l[0].N), l[0].Kind == api.KTime || l[0].Kind == api.KBool || l[0].Kind == api.KRef
	case "time":
		v, is = api.Value{Kind: api.KTime, N: l[0].N}, l[0].Kind == api.KInt
	default:
		panic(name)
	}
	if !is {
		v = api.Value{}
	}
	return v, is
}

// holds holds all that takes as many values against the model.
func holds(t *testing.T, l ...api.Value) {
	t.Helper()
	for name, takes := range predicates {
		if takes == len(l) {
			expectTest(t, name, l, modelTest(name, l[0], l[1]), api.OK)
		}
	}
	for name, takes := range functions {
		if takes == len(l) {
			v, is := modelDo(name, l)
			expectDo(t, name, l, v, is, api.OK)
		}
	}
}

func TestModelOfAll(t *testing.T) {
	l := allowed()
	for _, a := range l {
		holds(t, a)
		for _, b := range l {
			holds(t, a, b)
		}
	}
	few := append(list(`"" "a" "abc" # #6162 :abc 5 @7`), long(api.KText, "a", api.MaxText), number(-1), number(0), number(1), number(2), number(3), number(4), number(999), number(1000), number(1001), read("!1"), read("true"), number(-1<<63), number(1<<63-1))
	for _, a := range few {
		for _, b := range few {
			for _, c := range few {
				holds(t, a, b, c)
			}
		}
	}
}

// drawn is a number: of any length, by an edge, or a factor of one.
func drawn(r *rand.Rand) api.Value {
	n := int64(r.Uint64())
	switch r.Intn(4) {
	case 0:
		n >>= r.Intn(64)
	case 1:
		l := edges()
		n = l[r.Intn(len(l))] + r.Int63n(5) - 2
	case 2:
		l := edges()
		n = l[r.Intn(len(l))] / (1 + r.Int63n(1<<r.Intn(33)))
	}
	return number(n)
}

// drawnBytes is a value of few unlike bytes.
func drawnBytes(r *rand.Rand) api.Value {
	v := api.Value{Kind: []int{api.KText, api.KBytes, api.KWord}[r.Intn(3)]}
	for range r.Intn(7) {
		v.S += string("ab"[r.Intn(2)])
	}
	if v.Kind == api.KWord {
		v.S += "a"
	}
	return v
}

func TestModelOfDrawn(t *testing.T) {
	r := rand.New(rand.NewSource(15))
	for range 50000 {
		a, b := drawn(r), drawn(r)
		holds(t, a)
		holds(t, a, b)
		// Products whose factors are as great as may be, and quotients that leave nothing.
		if b.N != 0 {
			holds(t, number((1<<63-1)/b.N+r.Int63n(3)-1), b)
			holds(t, number(a.N/b.N*b.N), b)
		}
		v, w := drawnBytes(r), drawnBytes(r)
		holds(t, v)
		holds(t, v, w)
		holds(t, v, number(r.Int63n(9)-1), number(r.Int63n(9)-1))
	}
}
