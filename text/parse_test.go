package text

import (
	"fmt"
	"math/rand"
	"regexp"
	"slices"
	"strings"
	"testing"
	"unsafe"

	"daybook/api"
	"daybook/value"
)

// val and the like are nodes without a place.
func val(v api.Value) api.Node { return api.Node{Kind: api.NodeValue, V: v} }

func num(n int64) api.Node { return val(api.Value{Kind: api.KInt, N: n}) }

func name(s string) api.Node { return api.Node{Kind: api.NodeName, S: s} }

func list(kids ...api.Node) api.Node { return api.Node{Kind: api.NodeList, Kids: kids} }

func vec(kids ...api.Node) api.Node { return api.Node{Kind: api.NodeVec, Kids: kids} }

func dict(kids ...api.Node) api.Node { return api.Node{Kind: api.NodeMap, Kids: kids} }

// at puts a node at a place.
func at(line, column int, n api.Node) api.Node {
	n.Line, n.Column = line, column
	return n
}

// equal holds nodes against each other, their places with them.
func equal(a, b []api.Node) bool {
	return slices.EqualFunc(a, b, func(m, n api.Node) bool {
		return m.Kind == n.Kind && m.V == n.V && m.S == n.S && m.Line == n.Line && m.Column == n.Column && equal(m.Kids, n.Kids)
	})
}

func TestParse(t *testing.T) {
	var (
		ref1 = val(api.Value{Kind: api.KRef, N: 1})
		user = val(api.Value{Kind: api.KWord, S: "user/name"})
		yes  = val(api.Value{Kind: api.KBool, N: 1})
		no   = val(api.Value{Kind: api.KBool})
		str  = func(s string) api.Node { return val(api.Value{Kind: api.KText, S: s}) }
	)
	for _, x := range []struct {
		s    string
		want []api.Node
	}{
		// The chapter's.
		{`(add @1 :user/name "a\22")`, []api.Node{at(1, 1, list(at(1, 2, name("add")), at(1, 6, ref1), at(1, 9, user), at(1, 20, str(`a"`))))}},
		{"[?x -5 - !=] ; that", []api.Node{at(1, 1, vec(at(1, 2, name("?x")), at(1, 5, num(-5)), at(1, 8, name("-")), at(1, 10, name("!="))))}},
		{"", nil},
		// Nothing but blanks and remarks.
		{" ", nil}, {"\t\n\r ", nil}, {";", nil}, {"; a (", nil}, {";\n;\n", nil}, {"; \"", nil}, {";\x00\xff\n", nil}, {"\n\n  ; )\n", nil},
		// Each kind of value, and names.
		{`0 -7 true false "" #00ff @0 !-3 :a`, []api.Node{at(1, 1, num(0)), at(1, 3, num(-7)), at(1, 6, yes), at(1, 11, no), at(1, 17, str("")), at(1, 20, val(api.Value{Kind: api.KBytes, S: "\x00\xff"})), at(1, 26, val(api.Value{Kind: api.KRef})), at(1, 29, val(api.Value{Kind: api.KTime, N: -3})), at(1, 33, val(api.Value{Kind: api.KWord, S: "a"}))}},
		{"#", []api.Node{at(1, 1, val(api.Value{Kind: api.KBytes}))}},
		{"truer tru -> _ x9 ! + a!", []api.Node{at(1, 1, name("truer")), at(1, 7, name("tru")), at(1, 11, name("->")), at(1, 14, name("_")), at(1, 16, name("x9")), at(1, 19, name("!")), at(1, 21, name("+")), at(1, 23, name("a!"))}},
		// By the words of both a name may look like an instant ahead of 0; what is a value's text is the value.
		{"!-5 !-0 !-05", []api.Node{at(1, 1, val(api.Value{Kind: api.KTime, N: -5})), at(1, 5, name("!-0")), at(1, 9, name("!-05"))}},
		{`"a b;(c)]"`, []api.Node{at(1, 1, str("a b;(c)]"))}},
		{`"\0a"`, []api.Node{at(1, 1, str("\n"))}},
		// Brackets, by themselves and within one another; they need no blanks.
		{"()", []api.Node{at(1, 1, list())}}, {"[]", []api.Node{at(1, 1, vec())}}, {"{}", []api.Node{at(1, 1, dict())}},
		{"()[]{}", []api.Node{at(1, 1, list()), at(1, 3, vec()), at(1, 5, dict())}},
		{"([{}])", []api.Node{at(1, 1, list(at(1, 2, vec(at(1, 3, dict())))))}},
		{"((a)(b))", []api.Node{at(1, 1, list(at(1, 2, list(at(1, 3, name("a")))), at(1, 5, list(at(1, 6, name("b"))))))}},
		{"{a[1](b)\"c\"}", []api.Node{at(1, 1, dict(at(1, 2, name("a")), at(1, 3, vec(at(1, 4, num(1)))), at(1, 6, list(at(1, 7, name("b")))), at(1, 9, str("c"))))}},
		{"a(b)c", []api.Node{at(1, 1, name("a")), at(1, 2, list(at(1, 3, name("b")))), at(1, 5, name("c"))}},
		{`"a"["b"]`, []api.Node{at(1, 1, str("a")), at(1, 4, vec(at(1, 5, str("b"))))}},
		// What may stand behind a word.
		{"a b\tc\rd\ne;f\ng", []api.Node{at(1, 1, name("a")), at(1, 3, name("b")), at(1, 5, name("c")), at(1, 7, name("d")), at(2, 1, name("e")), at(3, 1, name("g"))}},
		{`"a";"b"`, []api.Node{at(1, 1, str("a"))}},
		{"(a;)\n)", []api.Node{at(1, 1, list(at(1, 2, name("a"))))}},
		// Lines end with a byte 10 alone; columns are bytes.
		{"a\n b\r\n\r  c\n\n\td", []api.Node{at(1, 1, name("a")), at(2, 2, name("b")), at(3, 4, name("c")), at(5, 2, name("d"))}},
		{"; \xc3\xa9\r1\n[\n2\n] 3", []api.Node{at(2, 1, vec(at(3, 1, num(2)))), at(4, 3, num(3))}},
		{"(a ; \xc3\xa9\n\"b\" c)\n", []api.Node{at(1, 1, list(at(1, 2, name("a")), at(2, 1, str("b")), at(2, 5, name("c"))))}},
	} {
		if l, line, column, e := Parse(x.s); e != api.OK || line != 0 || column != 0 || !equal(l, x.want) {
			t.Errorf("Parse(%q) = %v, %d, %d, %v, want %v", x.s, l, line, column, e, x.want)
		}
	}
}

// refused asks that a text be refused, and where.
func refused(t *testing.T, s string, line, column int) {
	t.Helper()
	l, gotLine, gotColumn, e := Parse(s)
	if e != api.ErrText || l != nil || gotLine != line || gotColumn != column {
		t.Errorf("Parse(%.100q) = %d nodes, %d, %d, %v, want ErrText at %d:%d", s, len(l), gotLine, gotColumn, e, line, column)
	}
}

func TestParseOfWhatIsNone(t *testing.T) {
	long := strings.Repeat("a", api.MaxText+1)
	for _, x := range []struct {
		s            string
		line, column int
	}{
		// The chapter's.
		{"(a", 1, 3}, {"(a]", 1, 3}, {")", 1, 1}, {"-05", 1, 1}, {`a"b"`, 1, 2}, {`"a`, 1, 3}, {"a\nA", 2, 1},
		// A byte that begins no token.
		{"\x00", 1, 1}, {"a \x7f", 1, 3}, {"(\x80", 1, 2}, {"\n\xc3\xa9", 2, 1}, {"a\n \x0b", 2, 2}, {"\x0c", 1, 1}, {"()\x1f", 1, 3}, {"; a\n\x01", 2, 1},
		// A word that is neither a value's text nor a name.
		{"A", 1, 1}, {"a bC", 1, 3}, {"+5", 1, 1}, {"1.0", 1, 1}, {"1a", 1, 1}, {"!x 00", 1, 4}, {"@-1", 1, 1}, {"@", 1, 1}, {"!05", 1, 1}, {"-0", 1, 1}, {":", 1, 1}, {":A", 1, 1}, {"#0", 1, 1}, {"#0G", 1, 1}, {"a,b", 1, 1}, {"a 'b", 1, 3}, {"a\\22", 1, 1}, {"(|)", 1, 2}, {"a:b", 1, 1}, {"a#00", 1, 1}, {"@9007199254740992", 1, 1}, {"9223372036854775808", 1, 1}, {strings.Repeat("a", 65), 1, 1}, {" " + strings.Repeat("0", 100000), 1, 2},
		{`"\61"`, 1, 1}, {`"\"`, 1, 1}, {`"\\"`, 1, 1}, {` "a\2"`, 1, 2}, {"\"\n\"", 1, 1}, {"a \"b\nc\nd\" (", 1, 3}, {"\"\xff\"", 1, 1}, {`"` + long + `"`, 1, 1}, {"#" + strings.Repeat("00", api.MaxText+1), 1, 1}, {":" + strings.Repeat("a", 65), 1, 1},
		// A byte at once behind a word that may not be there.
		{`"a"b`, 1, 4}, {`"a""b"`, 1, 4}, {`""""`, 1, 3}, {`"a"1`, 1, 4}, {`"a"?`, 1, 4}, {"a\x00", 1, 2}, {"a\x7fb", 1, 2}, {"12\xc3", 1, 3}, {"a\x0b", 1, 2}, {"\n:a\"", 2, 3}, {`("a"b)`, 1, 5}, {"a\"", 1, 2}, {"\"a\"\x01", 1, 4},
		// Of two faults the first one.
		{`A"`, 1, 1}, {"-05\x00", 1, 1}, {") A", 1, 1}, {"A )", 1, 1}, {"a ) \"", 1, 3}, {"\x00 (", 1, 1}, {"([)\"", 1, 3}, {`"\"b`, 1, 1}, {`"a"b "`, 1, 4},
		// A bracket that closes none, or another one than the last one that is open.
		{"]", 1, 1}, {"}", 1, 1}, {"a\n )", 2, 2}, {"())", 1, 3}, {"()[]{}}", 1, 7}, {"(}", 1, 2}, {"[)", 1, 2}, {"[}", 1, 2}, {"{)", 1, 2}, {"{]", 1, 2}, {"([)]", 1, 3}, {"[(a]", 1, 4}, {"(a\n[b\nc)]", 3, 2}, {"{(})", 1, 3},
		// What ends too early.
		{"(", 1, 2}, {"[", 1, 2}, {"{", 1, 2}, {"(a\n", 2, 1}, {"(a ; )", 1, 7}, {"(a ; )\n", 2, 1}, {"[(a) \n b", 2, 3}, {"((())", 1, 6}, {"(\n\n", 3, 1}, {"([]\r", 1, 5},
		{`"`, 1, 2}, {`("a)`, 1, 5}, {"\"a\nb", 2, 2}, {"\"a\n", 2, 1}, {"a \"; )\n\nb)", 3, 3}, {"a b \"\xc3\xa9", 1, 8}, {`a "\2`, 1, 6}, {`"` + long, 1, 1003}, {"{a \"\x00", 1, 6},
	} {
		refused(t, x.s, x.line, x.column)
	}
}

// Each byte by itself, within a name, and behind a word that has an end of its own.
func TestParseOfBytes(t *testing.T) {
	const first, later, blank = "abcdefghijklmnopqrstuvwxyz?_+-*/<>=!.%&", "0123456789", " \t\n\r"
	for c := range 256 {
		b := string([]byte{byte(c)})
		_, _, _, e := Parse(b)
		if want := strings.Contains(first+later+blank+"#;", b); (e == api.OK) != want {
			t.Errorf("Parse(%q): %v", b, e)
		}
		l, line, column, e := Parse("a" + b + "a")
		switch {
		case strings.Contains(first+later, b):
			if e != api.OK || !equal(l, []api.Node{at(1, 1, name("a"+b+"a"))}) {
				t.Errorf("Parse(%q): %v, %v", "a"+b+"a", l, e)
			}
		case strings.Contains(" \t\r", b):
			if e != api.OK || !equal(l, []api.Node{at(1, 1, name("a")), at(1, 3, name("a"))}) {
				t.Errorf("Parse(%q): %v, %v", "a"+b+"a", l, e)
			}
		case b == "\n":
			if e != api.OK || !equal(l, []api.Node{at(1, 1, name("a")), at(2, 1, name("a"))}) {
				t.Errorf("Parse(%q): %v, %v", "a"+b+"a", l, e)
			}
		case b == ";":
			if e != api.OK || !equal(l, []api.Node{at(1, 1, name("a"))}) {
				t.Errorf("Parse(%q): %v, %v", "a"+b+"a", l, e)
			}
		case strings.Contains("([{", b):
			if e != api.ErrText || line != 1 || column != 4 {
				t.Errorf("Parse(%q): %d:%d, %v", "a"+b+"a", line, column, e)
			}
		case c <= 32 || c > 126 || strings.Contains(")]}\"", b):
			refused(t, "a"+b+"a", 1, 2)
		default:
			refused(t, "a"+b+"a", 1, 1)
		}
		// Behind a text.
		switch {
		case strings.Contains(blank+";", b):
			if l, _, _, e := Parse(`"a"` + b); e != api.OK || len(l) != 1 {
				t.Errorf("Parse(%q): %v, %v", `"a"`+b, l, e)
			}
		case strings.Contains("([{", b):
			refused(t, `"a"`+b, 1, 5)
		default:
			refused(t, `"a"`+b, 1, 4)
		}
	}
}

func TestParseOfManyBrackets(t *testing.T) {
	opens, closes := strings.Repeat("(", 50), strings.Repeat(")", 50)
	for _, s := range []string{
		opens + closes, opens + "a b" + closes, opens + closes + " " + opens + closes,
		strings.Repeat("[{", 25) + strings.Repeat("}]", 25),
		strings.Repeat("(", 49) + strings.Repeat("[]", 100) + strings.Repeat(")", 49),
	} {
		if l, line, column, e := Parse(s); e != api.OK || line != 0 || column != 0 || len(l) == 0 {
			t.Errorf("Parse(%q) = %v, %d, %d, %v", s, l, line, column, e)
		}
	}
	refused(t, opens+"("+")"+closes, 1, 51)
	refused(t, opens+"[", 1, 51)
	refused(t, opens+"\n {}"+closes, 2, 2)
	refused(t, opens+closes+opens+"(", 1, 151)
	refused(t, strings.Repeat("{", 100000), 1, 51)
	refused(t, opens, 1, 51)
	refused(t, strings.Repeat("(", 49)+"[] [] [", 1, 57)
}

func TestParseOfManyNodes(t *testing.T) {
	for _, s := range []string{
		strings.Repeat("a ", 5000), strings.Repeat("()", 5000), strings.Repeat("(a)", 2500), "(" + strings.Repeat("a ", 4999) + ")",
		strings.Repeat("a ", 5000) + "; b", strings.Repeat(`""[]`, 2500),
	} {
		l, line, column, e := Parse(s)
		if e != api.OK || line != 0 || column != 0 || Size(l) != 5000 {
			t.Errorf("Parse(%.20q ..) = %d nodes, %d, %d, %v", s, Size(l), line, column, e)
		}
	}
	refused(t, strings.Repeat("a ", 5001), 1, 10001)
	refused(t, strings.Repeat("a ", 100000), 1, 10001)
	refused(t, strings.Repeat("a\n", 5000)+" 7", 5001, 2)
	refused(t, strings.Repeat("()", 5000)+"(", 1, 10001)
	refused(t, strings.Repeat("(a)", 2500)+" {}", 1, 7502)
	refused(t, "("+strings.Repeat("a ", 4999)+"b)", 1, 10000)
	refused(t, "("+strings.Repeat("a ", 5000), 1, 10000)
	refused(t, strings.Repeat("a ", 4999)+`("b"`, 1, 10000)
	// What is no node is none too many.
	refused(t, "("+strings.Repeat("a ", 4999), 1, 10000)
	refused(t, strings.Repeat("a ", 5000)+"]", 1, 10001)
	refused(t, strings.Repeat("a ", 5000)+`"b`, 1, 10003)
}

func TestParseIsNewMemory(t *testing.T) {
	s := strings.Clone(`name "text" :word #00 (other (a b) [c d])`)
	kept := strings.Clone(s)
	l, _, _, e := Parse(s)
	if e != api.OK {
		t.Fatal(e)
	}
	from := uintptr(unsafe.Pointer(unsafe.StringData(s)))
	var apart func(l []api.Node)
	apart = func(l []api.Node) {
		for _, n := range l {
			for _, own := range []string{n.S, n.V.S} {
				if own == "" {
					continue
				}
				if p := uintptr(unsafe.Pointer(unsafe.StringData(own))); from <= p && p < from+uintptr(len(s)) {
					t.Errorf("%q is a piece of what was handed in", own)
				}
			}
			apart(n.Kids)
		}
	}
	apart(l)
	// Lists that are gone on with write to no other one.
	want, _, _, _ := Parse(s)
	more := func(l []api.Node) { _ = append(l[:len(l):cap(l)], name("more"), name("more"), name("more")) }
	kids := l[4].Kids
	more(l)
	more(kids)
	more(kids[1].Kids)
	more(kids[2].Kids)
	if !equal(l, want) || s != kept {
		t.Errorf("lists of one answer share memory: %v", l)
	}
}

// Pieces that the oracle takes a text apart by.
var (
	skipped   = regexp.MustCompile(`^([ \t\n\r]|;[^\n]*)*`)
	aBracket  = regexp.MustCompile(`^[()\[\]{}]`)
	aQuoted   = regexp.MustCompile(`^"[^"]*"`)
	aWord     = regexp.MustCompile(`^[!#-'*-:<-Z\\^-z|~]+`)
	mayFollow = regexp.MustCompile(`^([ \t\n\r()\[\]{};]|$)`)
	aName     = regexp.MustCompile(`^([a-z?_*/<>=.%&]|[+!-]($|[a-z?_+*/<>=!.%&-]))[a-z0-9?_+*/<>=!.%&-]*$`)
)

func isName(s string) bool {
	return aName.MatchString(s) && len(s) <= 64 && s != "true" && s != "false"
}

// oracle is where a text's fault begins, -1 if it has none; and its print otherwise. It knows no limits of many.
func oracle(s string) (int, string) {
	const pairs = "()[]{}"
	var open, print string
	gap := "" // what stands ahead of the next node
	at := 0
	for {
		at += len(skipped.FindString(s[at:]))
		if at == len(s) {
			break
		}
		if b := aBracket.FindString(s[at:]); b != "" {
			i := strings.Index(pairs, b)
			if i%2 == 0 {
				open += pairs[i+1 : i+2]
				print, gap = print+gap+b, ""
			} else if !strings.HasSuffix(open, b) {
				return at, ""
			} else {
				open = open[:len(open)-1]
				print, gap = print+b, " "
			}
			at++
			continue
		}
		w := aWord.FindString(s[at:])
		if s[at] == '"' {
			if w = aQuoted.FindString(s[at:]); w == "" {
				return len(s), ""
			}
		}
		if _, e := value.Parse(w); e != api.OK && !isName(w) {
			return at, ""
		}
		print, gap = print+gap+w, " "
		at += len(w)
		if !mayFollow.MatchString(s[at:]) {
			return at, ""
		}
	}
	if open != "" {
		return len(s), ""
	}
	return -1, print
}

// check holds Parse of a text against the oracle, and says whether the text is nodes.
func check(t *testing.T, s string) bool {
	fault, print := oracle(s)
	l, line, column, e := Parse(s)
	if fault < 0 {
		back, be := Print(l)
		if e != api.OK || line != 0 || column != 0 || be != api.OK || back != print {
			t.Fatalf("Parse(%q) = %v, %d, %d, %v, its print %q, %v, want %q", s, l, line, column, e, back, be, print)
		}
		return true
	}
	wantLine := 1 + strings.Count(s[:fault], "\n")
	wantColumn := fault - strings.LastIndexByte(s[:fault], '\n')
	if e != api.ErrText || l != nil || line != wantLine || column != wantColumn {
		t.Fatalf("Parse(%q) = %v, %d, %d, %v, want ErrText at %d:%d", s, l, line, column, e, wantLine, wantColumn)
	}
	return false
}

// All short texts of some bytes.
func TestParseOfAllShortTexts(t *testing.T) {
	const bytes = "a05-!@:#\"\\()]}; \nA\x7f"
	many := 0
	var try func(s string, more int)
	try = func(s string, more int) {
		if check(t, s) {
			many++
		}
		for i := 0; i < len(bytes) && more > 0; i++ {
			try(s+bytes[i:i+1], more-1)
		}
	}
	try("", 4)
	for _, s := range []string{"(a \"\"", "[{-", "\"\\0", "tru", "a\n(b)"} {
		try(s, 3)
	}
	if many < 1000 {
		t.Errorf("just %d texts of nodes", many)
	}
}

// Long texts of pieces, some of them wrong.
func TestParseOfPieces(t *testing.T) {
	pieces := []string{"(", "(", "[", "{", ")", ")", "]", "}", " ", " ", "\n", "\t", "\r", ";x (\"\n", "a", "?b", "-", "-5", "!3", "!=", "+", "0", "true", "@7", ":w/x", "#0a", `"q"`, `"; )"`, `"\0a"`, "A", "\"", "-05", "\xff", "\"a\nb\""}
	r := rand.New(rand.NewSource(3))
	many := 0
	for range 200000 {
		var b strings.Builder
		// Mostly the pieces that do no harm.
		for range r.Intn(12) {
			n := len(pieces)
			if r.Intn(10) > 0 {
				n -= 5
			}
			b.WriteString(pieces[r.Intn(n)])
			if r.Intn(3) > 0 {
				b.WriteByte(' ')
			}
		}
		if check(t, b.String()) {
			many++
		}
	}
	if many < 10000 {
		t.Errorf("just %d texts of nodes", many)
	}
}

// Blanks and remarks between tokens make no difference but to places.
func TestParseOfBlanks(t *testing.T) {
	const s = `( add @1 [ ?x "a b;c" { } -5 ] ) ( ) :w/x !0`
	tokens := []string{"(", "add", "@1", "[", "?x", `"a b;c"`, "{", "}", "-5", "]", ")", "(", ")", ":w/x", "!0"}
	want, _, _, e := Parse(s)
	if e != api.OK || Size(want) != 11 {
		t.Fatal(want, e)
	}
	r := rand.New(rand.NewSource(4))
	gaps := []string{" ", "\t", "\n", "\r", "\r\n", ";\n", "; a \"b ( ]\n", " ;; \x00\xff\n\t", "   ", "\n\n"}
	for range 1000 {
		var b strings.Builder
		for i, w := range tokens {
			for range r.Intn(3) {
				b.WriteString(gaps[r.Intn(len(gaps))])
			}
			if i > 0 {
				b.WriteString(gaps[r.Intn(len(gaps))])
			}
			b.WriteString(w)
		}
		if l, _, _, e := Parse(b.String()); e != api.OK || !Same(l, want) {
			t.Fatalf("Parse(%q) = %v, %v", b.String(), l, e)
		}
	}
	// Beside brackets there need be none.
	if l, _, _, e := Parse(`(add @1[?x "a b;c"{}-5])():w/x !0`); e != api.OK || !Same(l, want) {
		t.Errorf("%v, %v", l, e)
	}
}

// What tells tokens stops when no more are wanted, wherever that is.
func TestToldStops(t *testing.T) {
	for _, s := range []string{"(a 5)", `"a" [b`, "a\x00", "a \"b"} {
		var all []token
		for x := range told(s) {
			all = append(all, x)
		}
		if last := all[len(all)-1].kind; last != ending && last != fault {
			t.Errorf("the tokens of %q end with the kind %d", s, last)
		}
		for most := 1; most < len(all); most++ {
			var got []token
			for x := range told(s) {
				got = append(got, x)
				if len(got) == most {
					break
				}
			}
			if fmt.Sprint(got) != fmt.Sprint(all[:most]) {
				t.Errorf("the first %d tokens of %q: %v", most, s, got)
			}
		}
	}
}
