package span

import (
	"math/rand"
	"slices"
	"strings"
	"testing"

	"daybook/api"
)

func TestText(t *testing.T) {
	for _, x := range []struct {
		l    []api.Span
		want string
	}{
		{nil, "none"}, {[]api.Span{}, "none"},
		{of(never, ever), "[-,+)"},
		{of(1, 5, 7, ever), "[1,5) [7,+)"},
		{of(1, 2), "[1,2)"}, {of(-1, 0), "[-1,0)"}, {of(0, 1), "[0,1)"}, {of(-10, -9, 9, 10), "[-10,-9) [9,10)"},
		{of(never, 0), "[-,0)"}, {of(0, ever), "[0,+)"}, {of(never, -1, 1, ever), "[-,-1) [1,+)"},
		{of(never, never+1), "[-,-9223372036854775807)"}, {of(ever-1, ever), "[9223372036854775806,+)"},
		{of(never+1, ever-1), "[-9223372036854775807,9223372036854775806)"},
		{of(1, 2, 3, 4, 5, 6), "[1,2) [3,4) [5,6)"},
	} {
		if got, e := Text(x.l); e != api.OK || got != x.want {
			t.Errorf("Text(%v) = %q, %v, want %q", x.l, got, e, x.want)
		}
		if got, e := Parse(x.want); e != api.OK || !slices.Equal(got, x.l) {
			t.Errorf("Parse(%q) = %v, %v, want %v", x.want, got, e, x.l)
		}
	}
	for _, l := range notSets() {
		if got, e := Text(l); e != api.ErrSpan || got != "" {
			t.Errorf("Text(%v) = %q, %v, want nothing and ErrSpan", l, got, e)
		}
	}
}

func TestParseOfNoSets(t *testing.T) {
	for _, s := range []string{
		"[5,1)", "[1,5)[7,9)", "[1,5) [5,9)", "",
		" ", "none ", " none", "None", "non", "nonenone", "none none", "none [1,2)", "[1,2) none", "[none)",
		"[1,1)", "[0,0)", "[-,-)", "[+,+)", "[+,-)", "[1,-)", "[+,1)", "[-,1) [1,+)", "[1,2) [1,2)", "[3,4) [1,2)", "[1,5) [2,3)", "[1,5) [3,9)",
		"[1,2", "1,2)", "1,2", "[1,2]", "(1,2)", "[1 2)", "[1,2,3)", "[1)", "[,)", "[1,)", "[,1)", "[,", ",)", "[", ")", "[)", "[]", "-", "+", "-,+",
		"[1,2) ", " [1,2)", "[1,2)  [3,4)", "[1,2)\t[3,4)", "[1,2)\n[3,4)", "[1,2)\n", "[1, 2)", "[ 1,2)", "[1 ,2)", "[1,2 )", "[1,2),[3,4)", "[[1,2))", "[1,2)) [3,4)",
		"[01,2)", "[1,02)", "[-01,2)", "[00,2)", "[-0,2)", "[-2,-0)", "[+1,2)", "[1,+2)", "[--,2)", "[-,++)", "[-+,2)", "[1_0,20)", "[0x1,2)", "[1.0,2)", "[1e1,20)", "[1,٢)",
		"[-9223372036854775808,0)", "[0,9223372036854775807)", "[-9223372036854775808,9223372036854775807)", "[-9223372036854775809,0)", "[0,9223372036854775808)", "[0,99999999999999999999999)",
		"[1,2)\x00", "[1,2)\xff", "[1,2) [", "[1,2) [3,4) x", "[1,2) [4,4)", "[0," + strings.Repeat("9", 1000) + ")", strings.Repeat("[", 1000), strings.Repeat("[1,2) ", 1000),
	} {
		if got, e := Parse(s); e != api.ErrSpan || len(got) != 0 {
			t.Errorf("Parse(%q) = %v, %v, want nothing and ErrSpan", s, got, e)
		}
	}
}

// Of all sets of the stretches between marks the text is read back.
func TestTextOfAllSets(t *testing.T) {
	texts := map[string]int{}
	for have := range allStretches {
		text, e := Text(setOf(have))
		if other, ok := texts[text]; ok || e != api.OK {
			t.Fatalf("Text(%v) = %q, %v, that of %v too", setOf(have), text, e, setOf(other))
		}
		texts[text] = have
		if back, e := Parse(text); e != api.OK || !slices.Equal(back, setOf(have)) {
			t.Fatalf("Parse(%q) = %v, %v, want %v", text, back, e, setOf(have))
		}
	}
}

// parsesToItself says that a text is refused, or is the text of what it is read as.
func parsesToItself(t *testing.T, s string) bool {
	t.Helper()
	l, e := Parse(s)
	if e != api.OK {
		if e != api.ErrSpan || len(l) != 0 {
			t.Fatalf("Parse(%q) = %v, %v", s, l, e)
		}
		return false
	}
	if back, e := Text(l); e != api.OK || back != s || Check(l) != api.OK {
		t.Fatalf("Parse(%q) = %v, whose text is %q, %v", s, l, back, e)
	}
	return true
}

// All short texts of some bytes, alone and between the marks of one span: those of sets are read, and no other ones.
func TestParseOfAllShortTexts(t *testing.T) {
	const from = "[),-+01 "
	texts := []string{""}
	var read []string
	for begin, length := 0, 0; length < 6; length++ {
		end := len(texts)
		for ; begin < end; begin++ {
			for i := range len(from) {
				texts = append(texts, texts[begin]+from[i:i+1])
			}
		}
	}
	for _, s := range texts {
		if parsesToItself(t, s) {
			read = append(read, s)
		}
		parsesToItself(t, "["+s+")")
	}
	want := strings.Fields("[-,-1) [-,0) [-,1) [-,10) [-,11) [-,+) [-1,0) [-1,1) [-1,+) [0,1) [0,10) [0,11) [0,+) [1,10) [1,11) [1,+) [10,+) [11,+)")
	slices.Sort(read)
	slices.Sort(want)
	if !slices.Equal(read, want) {
		t.Errorf("of the short texts these are read: %q, want %q", read, want)
	}
}

// A set's text with a byte turned, cut or put between is refused, or another set's.
func TestParseOfTurnedTexts(t *testing.T) {
	r := rand.New(rand.NewSource(5))
	const from = "[),-+0123456789 none"
	for range 20000 {
		var l []api.Span
		at := int64(r.Intn(40) - 20)
		for range r.Intn(4) {
			end := at + 1 + int64(r.Intn(20))
			l = append(l, api.Span{From: at, To: end})
			at = end + 1 + int64(r.Intn(20))
		}
		text, _ := Text(l)
		if !parsesToItself(t, text) {
			t.Fatalf("Parse(%q) is refused", text)
		}
		i, c := r.Intn(len(text)), string(from[r.Intn(len(from))])
		parsesToItself(t, text[:i]+c+text[i+1:])
		parsesToItself(t, text[:i]+text[i+1:])
		parsesToItself(t, text[:i]+c+text[i:])
	}
}
