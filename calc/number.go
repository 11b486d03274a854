package calc

// ofOne is what a number makes; false, if that would go round.
func ofOne(name string, n int64) (int64, bool) {
	switch name {
	case "abs":
		if n >= 0 {
			return n, true
		}
		fallthrough
	default:
		return ofTwo("-", 0, n)
	}
}

// ofTwo is what two numbers make; false, if there is none, or if that would go round.
func ofTwo(name string, a, b int64) (int64, bool) {
	alike := (a < 0) == (b < 0)
	// Where signs are alike, they say which one is to come out; where they are not, nothing goes round but products.
	signed := func(n int64, below bool) bool { return !alike || (n < 0) == below }
	switch name {
	case "+":
		return a + b, signed(a+b, a < 0)
	case "-":
		alike = !alike // b is added with its sign turned
		return a - b, signed(a-b, a < 0)
	case "*":
		n := a * b
		return n, signed(n, false) && (b == 0 || n/b == a)
	}
	if b == 0 || !signed(a/b, false) {
		return 0, false
	}
	if name == "mod" {
		return a % b, true
	}
	return a / b, true
}
