package value

import (
	"iter"
	"strconv"
	"strings"

	"daybook/api"
)

const digits = "0123456789abcdef"

// longest is how many bytes the text of a value has at most: a KText's, whose bytes are all escaped.
const longest = 3*api.MaxText + 2

// Text is a value's.
func Text(v api.Value) (string, api.Errno) {
	if !mayBe(v) {
		return "", api.ErrKind
	}
	var b []byte
	for c := range told(v) {
		b = append(b, c)
	}
	return string(b), api.OK
}

// told are the bytes of the text of a value that may be.
func told(v api.Value) iter.Seq[byte] {
	return func(yield func(byte) bool) {
		switch v.Kind {
		case api.KRef, api.KTime:
			if !yield(mark(v.Kind)) {
				return
			}
			fallthrough
		case api.KInt:
			say(strconv.FormatInt(v.N, 10), yield)
		case api.KBool:
			say(strconv.FormatBool(v.N == 1), yield)
		case api.KWord:
			say(":"+v.S, yield)
		case api.KBytes:
			sayEach("#", v.S, "", hex, yield)
		case api.KText:
			sayEach(`"`, v.S, `"`, escaped, yield)
		}
	}
}

// mark is the byte ahead of the digits of a kind.
func mark(kind int) byte {
	if kind == api.KRef {
		return '@'
	}
	return '!'
}

// say hands on the bytes of a text, and says whether more are wanted.
func say(s string, yield func(byte) bool) bool {
	for i := range len(s) {
		if !yield(s[i]) {
			return false
		}
	}
	return true
}

// sayEach says what each byte of a text becomes, between what opens and what closes it.
func sayEach(opens, s, closes string, becomes func(byte) string, yield func(byte) bool) {
	if !say(opens, yield) {
		return
	}
	for i := range len(s) {
		if !say(becomes(s[i]), yield) {
			return
		}
	}
	say(closes, yield)
}

// hex is a byte in two digits.
func hex(c byte) string { return string([]byte{digits[c>>4], digits[c&15]}) }

// escaped is a byte as it stands in a KText's text.
func escaped(c byte) string {
	if c < 0x20 || c > 0x7e || c == '"' || c == '\\' {
		return `\` + hex(c)
	}
	return string([]byte{c})
}

// Parse is a text's value.
func Parse(s string) (api.Value, api.Errno) {
	if len(s) > longest {
		return api.Value{}, api.ErrValue
	}
	v, ok := read(s)
	if !ok || !mayBe(v) || !spells(v, s) {
		return api.Value{}, api.ErrValue
	}
	return v, api.OK
}

// spells says whether a text is just that of a value that may be.
func spells(v api.Value, s string) bool {
	at := 0
	for c := range told(v) {
		if at == len(s) || s[at] != c {
			return false
		}
		at++
	}
	return at == len(s)
}

// read tells which value a text can only be of. It lets texts pass that are no value's (needless noughts, needless escapes): spells finds these, so that the one text of a value is said in one place.
func read(s string) (api.Value, bool) {
	if s == "" {
		return api.Value{}, false
	}
	switch rest := s[1:]; s[0] {
	case 't':
		return api.Value{Kind: api.KBool, N: 1}, true
	case 'f':
		return api.Value{Kind: api.KBool}, true
	case '@':
		return readNumber(api.KRef, rest)
	case '!':
		return readNumber(api.KTime, rest)
	case ':':
		return api.Value{Kind: api.KWord, S: string([]byte(rest))}, true
	case '#':
		return readBytes(rest)
	case '"':
		return readText(rest)
	}
	return readNumber(api.KInt, s)
}

func readNumber(kind int, s string) (api.Value, bool) {
	n, err := strconv.ParseInt(s, 10, 64)
	return api.Value{Kind: kind, N: n}, err == nil
}

func readBytes(s string) (api.Value, bool) {
	var b []byte
	for ; s != ""; s = s[2:] {
		c, ok := readHex(s)
		if !ok {
			return api.Value{}, false
		}
		b = append(b, c)
	}
	return api.Value{Kind: api.KBytes, S: string(b)}, true
}

// readText reads on from escape to escape; behind the last one the rest is as it stands.
func readText(s string) (api.Value, bool) {
	s, ok := strings.CutSuffix(s, `"`)
	if !ok {
		return api.Value{}, false
	}
	var b []byte
escapes:
	for {
		for i := range len(s) {
			if s[i] != '\\' {
				continue
			}
			c, ok := readHex(s[i+1:])
			if !ok {
				return api.Value{}, false
			}
			b = append(append(b, s[:i]...), c)
			s = s[i+3:]
			continue escapes
		}
		return api.Value{Kind: api.KText, S: string(append(b, s...))}, true
	}
}

// readHex is the byte whose two digits a text begins with.
func readHex(s string) (byte, bool) {
	if len(s) < 2 {
		return 0, false
	}
	high, low := strings.IndexByte(digits, s[0]), strings.IndexByte(digits, s[1])
	return byte(high<<4 | low), high >= 0 && low >= 0
}
