package text

import "strings"

// class says of a byte whether it is one of some.
type class func(c byte) bool

func oneOf(bytes string) class {
	return func(c byte) bool { return strings.IndexByte(bytes, c) >= 0 }
}

// between are all bytes from one to another, both with them.
func between(low, high byte) class {
	return func(c byte) bool { return low <= c && c <= high }
}

func either(classes ...class) class {
	return func(c byte) bool {
		for _, in := range classes {
			if in(c) {
				return true
			}
		}
		return false
	}
}

func (in class) but(out class) class {
	return func(c byte) bool { return in(c) && !out(c) }
}

// begins is with how many bytes of a class a text begins.
func (in class) begins(s string) int {
	n := 0
	for n < len(s) && in(s[n]) {
		n++
	}
	return n
}
