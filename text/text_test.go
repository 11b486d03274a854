package text

import (
	"math/rand"
	"slices"
	"strings"
	"testing"

	"daybook/api"
)

// deep is a node within so many brackets.
func deep(brackets int, n api.Node) api.Node {
	for i := range brackets {
		n = api.Node{Kind: api.NodeList + i%3, Kids: []api.Node{n}}
	}
	return n
}

// many are so many names.
func many(n int) []api.Node { return slices.Repeat([]api.Node{name("a")}, n) }

// wrong are nodes that may not be.
func wrong() [][]api.Node {
	zero := api.Value{}
	one := api.Value{Kind: api.KInt, N: 1}
	return [][]api.Node{
		{{}}, {{Kind: -1}}, {{Kind: 6}}, {{Kind: 6, S: "a"}}, {{V: one}}, {{S: "a"}}, {{Kids: many(1)}}, {{Kind: 1 << 62, V: one}},
		// Values that may not be, or have what a value does not name.
		{{Kind: api.NodeValue}}, {val(api.Value{Kind: 8})}, {val(api.Value{Kind: api.KBool, N: 2})}, {val(api.Value{Kind: api.KRef, N: -1})}, {val(api.Value{Kind: api.KWord, S: "A"})}, {val(api.Value{Kind: api.KText, S: strings.Repeat("a", 1001)})}, {val(api.Value{Kind: api.KInt, S: "1"})},
		{{Kind: api.NodeValue, V: one, S: "a"}}, {{Kind: api.NodeValue, V: one, Kids: many(1)}}, {{Kind: api.NodeValue, V: zero, S: "a"}},
		// Names.
		{name("")}, {name("A")}, {name("true")}, {name("false")}, {name("5")}, {name("-5")}, {name("+5")}, {name("!0")}, {name("a b")}, {name("a\n")}, {name("a;")}, {name(`"a"`)}, {name("(")}, {name(":a")}, {name("@1")}, {name("é")}, {name(strings.Repeat("a", 65))},
		{{Kind: api.NodeName, S: "a", V: one}}, {{Kind: api.NodeName, S: "a", V: api.Value{S: "a"}}}, {{Kind: api.NodeName, S: "a", V: api.Value{N: 1}}}, {{Kind: api.NodeName, S: "a", Kids: many(1)}}, {{Kind: api.NodeName, V: one}},
		// Brackets.
		{{Kind: api.NodeList, S: "a"}}, {{Kind: api.NodeVec, S: "a"}}, {{Kind: api.NodeMap, S: "a"}}, {{Kind: api.NodeList, V: one}}, {{Kind: api.NodeVec, V: api.Value{N: 1}}}, {{Kind: api.NodeMap, V: api.Value{S: "a"}}}, {{Kind: api.NodeList, S: "a", Kids: many(1)}},
		// A wrong one ahead, behind, and within.
		{name("A"), name("a")}, {name("a"), name("A")}, {list(name("A"))}, {list(name("a"), vec(name("a"), dict(), name("")))}, {list(val(zero)), name("a")}, {deep(49, name("A"))},
		// Too many brackets within one another, and too many nodes.
		{deep(51, name("a"))}, {deep(50, list())}, {deep(50, vec())}, {name("a"), deep(50, dict())}, {deep(1000, name("a"))}, {deep(60000, name("a"))},
		many(5001), many(100000), {list(many(5000)...)}, append(many(4999), list(name("a"))), {list(many(2500)...), list(many(2499)...)}, append(many(5000), api.Node{}),
	}
}

// within is a node that stands within itself.
func within() []api.Node {
	l := []api.Node{list(), list()}
	l[0].Kids, l[1].Kids = l, l
	return l
}

// some are nodes that may be, of at most so many brackets within one another.
func some(r *rand.Rand, brackets int) []api.Node {
	values := []api.Value{{Kind: api.KInt}, {Kind: api.KInt, N: -9}, {Kind: api.KBool, N: 1}, {Kind: api.KText, S: "a \"b\n;)"}, {Kind: api.KText}, {Kind: api.KBytes, S: "\x00"}, {Kind: api.KBytes}, {Kind: api.KRef, N: 7}, {Kind: api.KTime, N: api.MinTime}, {Kind: api.KWord, S: "a/b"}}
	names := []string{"a", "?x", "-", "!", "!=", "->", "+", "tru", "a1", "-a", "..", "truefalse"}
	var l []api.Node
	for range r.Intn(5) {
		n := api.Node{Line: r.Intn(9) - 3, Column: r.Intn(9) - 3}
		n.Kind = 1 + r.Intn(5)
		switch {
		case n.Kind == api.NodeValue:
			n.V = values[r.Intn(len(values))]
		case n.Kind == api.NodeName || brackets == 0:
			n.Kind, n.S = api.NodeName, names[r.Intn(len(names))]
		default:
			n.Kids = some(r, brackets-1)
		}
		l = append(l, n)
	}
	return l
}

func TestPrint(t *testing.T) {
	quoted := val(api.Value{Kind: api.KText, S: "a\"\n"})
	opens, closes := strings.Repeat("[({", 17)[:50], strings.Repeat(")]}", 17)[:50]
	for _, x := range []struct {
		l            []api.Node
		print, lines string
	}{
		{nil, "", ""}, {[]api.Node{}, "", ""},
		{[]api.Node{name("a")}, "a", "a\n"},
		{[]api.Node{num(-5), name("-"), quoted}, `-5 - "a\22\0a"`, "-5\n-\n\"a\\22\\0a\"\n"},
		{[]api.Node{list(), vec(), dict()}, "() [] {}", "()\n[]\n{}\n"},
		{[]api.Node{list(name("add"), val(api.Value{Kind: api.KRef, N: 1}), val(api.Value{Kind: api.KWord, S: "user/name"}), quoted)}, `(add @1 :user/name "a\22\0a")`, "(add @1 :user/name \"a\\22\\0a\")\n"},
		{[]api.Node{vec(dict(list(name("a")), list()), num(1)), name("b")}, "[{(a) ()} 1] b", "[{(a) ()} 1]\nb\n"},
		// Lines and columns are any.
		{[]api.Node{at(-1, 1<<62, name("a")), at(7, 0, list(at(0, -5, num(0))))}, "a (0)", "a\n(0)\n"},
		// A list without kids may be nil, or empty.
		{[]api.Node{{Kind: api.NodeName, S: "a", Kids: []api.Node{}}, {Kind: api.NodeVec, Kids: []api.Node{}}}, "a []", "a\n[]\n"},
		{[]api.Node{deep(50, name("a"))}, opens + "a" + closes, opens + "a" + closes + "\n"},
		{many(5000), strings.Repeat("a ", 4999) + "a", strings.Repeat("a\n", 5000)},
		{[]api.Node{list(many(4999)...)}, "(" + strings.Repeat("a ", 4998) + "a)", "(" + strings.Repeat("a ", 4998) + "a)\n"},
	} {
		if s, e := Print(x.l); s != x.print || e != api.OK {
			t.Errorf("Print(%.100v) = %.100q, %v, want %.100q", x.l, s, e, x.print)
		}
		if s, e := Lines(x.l); s != x.lines || e != api.OK {
			t.Errorf("Lines(%.100v) = %.100q, %v, want %.100q", x.l, s, e, x.lines)
		}
	}
}

func TestPrintOfWhatMayNotBe(t *testing.T) {
	for i, l := range append(wrong(), within()) {
		if s, e := Print(l); s != "" || e != api.ErrArg {
			t.Errorf("%d: Print = %.100q, %v, want nothing and ErrArg", i, s, e)
		}
		if s, e := Lines(l); s != "" || e != api.ErrArg {
			t.Errorf("%d: Lines = %.100q, %v, want nothing and ErrArg", i, s, e)
		}
	}
}

func TestThereAndBack(t *testing.T) {
	r := rand.New(rand.NewSource(1))
	nodes := [][]api.Node{nil, {deep(50, name("a"))}, many(5000), {list(many(4999)...)}, {val(api.Value{Kind: api.KText, S: strings.Repeat("\xff", api.MaxText)})}, {name(strings.Repeat("z", api.MaxName))}}
	for range 3000 {
		nodes = append(nodes, some(r, 1+r.Intn(6)))
	}
	for _, l := range nodes {
		for _, write := range []func([]api.Node) (string, api.Errno){Print, Lines} {
			s, e := write(l)
			if e != api.OK {
				t.Fatalf("the text of %v: %v", l, e)
			}
			back, line, column, e := Parse(s)
			if e != api.OK || line != 0 || column != 0 || !Same(back, l) {
				t.Fatalf("Parse(%q) = %v, %d, %d, %v, want %v", s, back, line, column, e, l)
			}
			// What Parse answers has a print, too, of the same nodes.
			again, e := write(back)
			if e != api.OK || again != s {
				t.Fatalf("the text of Parse(%q) = %q, %v", s, again, e)
			}
		}
	}
}

func TestSame(t *testing.T) {
	r := rand.New(rand.NewSource(2))
	for range 2000 {
		a, b := some(r, 4), some(r, 4)
		x, _ := Print(a)
		y, _ := Print(b)
		if got := Same(a, b); got != (x == y) {
			t.Fatalf("Same of %q and %q: %v", x, y, got)
		}
		if turned := moved(a); !Same(a, turned) || !Same(turned, a) {
			t.Fatalf("lines and columns make a difference to %q", x)
		}
	}
	if !Same(nil, []api.Node{}) || !Same([]api.Node{list()}, []api.Node{{Kind: api.NodeList, Kids: []api.Node{}}}) {
		t.Error("a list that is nil is not that which is empty")
	}
	base := []api.Node{list(name("a"), vec(num(1)), val(api.Value{Kind: api.KText, S: "a"}))}
	for _, other := range [][]api.Node{
		nil, {}, {list()}, {list(name("b"), vec(num(1)), val(api.Value{Kind: api.KText, S: "a"}))}, {list(name("a"), vec(num(2)), val(api.Value{Kind: api.KText, S: "a"}))},
		{list(name("a"), dict(num(1)), val(api.Value{Kind: api.KText, S: "a"}))}, {list(name("a"), vec(num(1)), val(api.Value{Kind: api.KBytes, S: "a"}))}, {list(name("a"), vec(num(1)))}, {list(name("a"), vec(num(1)), name("a"))},
		{vec(base[0].Kids...)}, {base[0], base[0]}, {list(name("a"), vec(num(1), num(1)), val(api.Value{Kind: api.KText, S: "a"}))}, {list(vec(num(1)), name("a"), val(api.Value{Kind: api.KText, S: "a"}))},
	} {
		if Same(base, other) || Same(other, base) {
			t.Errorf("%v is the same as %v", other, base)
		}
	}
}

// moved are the same nodes elsewhere.
func moved(l []api.Node) []api.Node {
	var turned []api.Node
	for _, n := range l {
		n.Line, n.Column, n.Kids = n.Line+7, n.Column*3-1, moved(n.Kids)
		turned = append(turned, n)
	}
	return turned
}

func TestSameOfWhatMayNotBe(t *testing.T) {
	for i, l := range append(wrong(), within()) {
		if Same(l, l) || Same(l, nil) || Same(nil, l) {
			t.Errorf("%d: the same", i)
		}
	}
}

func TestSize(t *testing.T) {
	for i, x := range []struct {
		l    []api.Node
		want int
	}{
		{nil, 0}, {[]api.Node{}, 0}, {many(1), 1}, {[]api.Node{list()}, 1}, {[]api.Node{list(name("a"), vec(num(1), dict())), name("b")}, 6},
		{many(4999), 4999}, {many(5000), 5000}, {many(5001), 5001}, {many(5002), 5001}, {many(100000), 5001},
		{[]api.Node{list(many(4998)...)}, 4999}, {[]api.Node{list(many(4999)...)}, 5000}, {[]api.Node{list(many(5000)...)}, 5001}, {[]api.Node{list(many(5001)...)}, 5001}, {[]api.Node{list(many(9000)...), vec(many(9000)...)}, 5001},
		{append(many(4998), list(name("a"))), 5000}, {append(many(4999), list(name("a"))), 5001}, {append([]api.Node{list(many(2499)...), vec(many(2499)...)}, name("a")), 5001}, {[]api.Node{list(many(2499)...), vec(many(2499)...)}, 5000},
		{[]api.Node{deep(50, name("a"))}, 51}, {[]api.Node{deep(4999, name("a"))}, 5000}, {[]api.Node{deep(60000, name("a"))}, 5001},
		// Those that may not be are counted, too.
		{[]api.Node{{}, {Kind: 9}}, 2}, {[]api.Node{{Kind: api.NodeValue, Kids: many(2)}, {Kind: api.NodeName, Kids: many(3)}}, 7},
		{within(), 5001},
	} {
		if got := Size(x.l); got != x.want {
			t.Errorf("%d: Size = %d, want %d", i, got, x.want)
		}
	}
}

func TestNamed(t *testing.T) {
	for _, s := range []string{"a", "z", "?", "_", "+", "-", "*", "/", "<", ">", "=", "!", ".", "%", "&", "?x", "!=", "->", "<=", "--", "-a", "+a", "!a", "--5", "+-5", "!!0", "!-0", "!-5", "-?5", "a5", "a-5", "?5", "*5", ".5", "_9", "=0", "%1", "&1", "<1", ">1", "/1", "truer", "atrue", "false?", "tru", "t", "nil", strings.Repeat("a", 64), strings.Repeat("-", 64)} {
		if !Named(s) {
			t.Errorf("%q is no name", s)
		}
	}
	for _, s := range []string{"", "true", "false", "0", "9", "5a", "0-", "-0", "-5", "+5", "!5", "+9a", "!0a", "-1-", "A", "aB", "a b", " a", "a ", "a\n", "\x00", "a\x00", "a\x7f", "é", "aé", "\xff", "a(", ")", "[", "]", "{", "}", `"`, `a"`, ";", "a;", ":", ":a", "a:", "@", "@1", "#", "a#", "a,", "'", "a'", "$", "a$", "^", "|", "~", "`", "\\", strings.Repeat("a", 65), strings.Repeat("-", 65), strings.Repeat("a", 100000)} {
		if Named(s) {
			t.Errorf("%q is a name", s)
		}
	}
	for a := range 256 {
		for b := range 256 {
			if s := string([]byte{byte(a), byte(b)}); Named(s) != isName(s) {
				t.Errorf("Named(%q) = %v", s, Named(s))
			}
		}
	}
}

// What is handed in is only read, the room behind it with it.
func TestOnlyRead(t *testing.T) {
	r := rand.New(rand.NewSource(5))
	for range 500 {
		kids := append(some(r, 3), many(3)...)
		l := append(some(r, 3), list(kids[:len(kids)-2]...), vec(), name("room"), name("room"))
		kept := copied(l)
		handed := l[:len(l)-2]
		Print(handed)
		Lines(handed)
		Same(handed, handed)
		Size(handed)
		if !equal(l, kept) || !equal(kids[len(kids)-2:], many(2)) {
			t.Fatalf("%v has turned to %v", kept, l)
		}
	}
}

// copied are nodes with lists of their own.
func copied(l []api.Node) []api.Node {
	c := slices.Clone(l)
	for i := range c {
		c[i].Kids = copied(c[i].Kids)
	}
	return c
}
