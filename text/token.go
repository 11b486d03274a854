package text

import (
	"iter"
	"strings"
)

const (
	blanks   = " \t\n\r"
	brackets = "()[]{}"
)

// The kinds of tokens. What is told of a text ends with one that is none: its ending, or a fault, where no token can stand.
const (
	word = iota
	opening
	closing
	ending
	fault
)

// token is a bracket or a word, as it stands in a text, and where its first byte stands.
type token struct {
	kind         int
	s            string
	line, column int
}

// told are the tokens of a text.
func told(s string) iter.Seq[token] {
	blank, behindWord := oneOf(blanks), oneOf(blanks+brackets+";")
	return func(yield func(token) bool) {
		at := cursor{rest: s, line: 1, column: 1}
	reading:
		for at.rest != "" {
			switch first := at.rest[0]; {
			case first == ';':
				at.skip(toEndOfLine(at.rest))
				continue reading
			case blank(first):
				at.skip(blank.begins(at.rest))
				continue reading
			}
			t := at.token()
			if !yield(t) || t.kind == fault {
				return
			}
			if t.kind == word && at.rest != "" && !behindWord(at.rest[0]) {
				yield(at.place(fault))
				return
			}
		}
		yield(at.place(ending))
	}
}

// toEndOfLine is how many bytes stand ahead of the end of a text's first line.
func toEndOfLine(s string) int {
	if n := strings.IndexByte(s, '\n'); n >= 0 {
		return n
	}
	return len(s)
}

// cursor is what is left of a text, and where that begins.
type cursor struct {
	rest         string
	line, column int
}

// skip goes on behind so many bytes, and tells them.
func (at *cursor) skip(n int) string {
	piece := at.rest[:n]
	at.rest = at.rest[n:]
	if last := strings.LastIndexByte(piece, '\n'); last >= 0 {
		at.line += strings.Count(piece, "\n")
		at.column = n - last
		return piece
	}
	at.column += n
	return piece
}

// place is a token without bytes.
func (at *cursor) place(kind int) token {
	return token{kind: kind, line: at.line, column: at.column}
}

// token goes on behind the token that begins here. If none does, the fault is here; if it has no end, behind the text's last byte.
func (at *cursor) token() token {
	kind, n := measured(at.rest)
	if kind == fault {
		at.skip(n)
		return at.place(fault)
	}
	t := at.place(kind)
	t.s = at.skip(n)
	return t
}

// measured tells the kind of the token that a text begins with, and how many bytes it has; of a fault, how many stand ahead of it.
func measured(s string) (kind, n int) {
	switch s[0] {
	case '(', '[', '{':
		return opening, 1
	case ')', ']', '}':
		return closing, 1
	case '"':
		if n := strings.IndexByte(s[1:], '"'); n >= 0 {
			return word, n + 2
		}
		return fault, len(s)
	}
	inWord := between(33, 126).but(oneOf(brackets + "\";"))
	if n := inWord.begins(s); n > 0 {
		return word, n
	}
	return fault, 0
}
