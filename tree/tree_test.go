package tree

import (
	"bytes"
	"math"
	"slices"
	"strings"
	"testing"

	"daybook/api"
)

func TestChaptersExamples(t *testing.T) {
	x := of(t, "a", "1", "b", "2", "d", "4")
	for _, c := range []struct {
		name string
		got  func() (Pair, bool)
		want string
	}{
		{"Seek(c)", func() (Pair, bool) { return x.Seek([]byte("c")) }, "d4"},
		{"Back(c)", func() (Pair, bool) { return x.Back([]byte("c")) }, "b2"},
		{"Back(a)", func() (Pair, bool) { return x.Back([]byte("a")) }, ""},
		{"At(2)", func() (Pair, bool) { return x.At(2) }, "d4"},
		{"At(3)", func() (Pair, bool) { return x.At(3) }, ""},
		{"At(-1)", func() (Pair, bool) { return x.At(-1) }, ""},
		{"Seek(e)", func() (Pair, bool) { return x.Seek([]byte("e")) }, ""},
		{"Seek(b)", func() (Pair, bool) { return x.Seek([]byte("b")) }, "b2"},
		{"Back(b)", func() (Pair, bool) { return x.Back([]byte("b")) }, "a1"},
	} {
		p, ok := c.got()
		if ok != (c.want != "") || string(p.Key)+string(p.Value) != c.want {
			t.Errorf("%s = %s, %v, want %q", c.name, told([]Pair{p}), ok, c.want)
		}
	}
	if n := x.Rank([]byte("c")); n != 2 {
		t.Errorf("Rank(c) = %d", n)
	}
	if l := x.Range([]byte("b"), nil, 1); told(l) != "<62>:<32> " {
		t.Errorf("Range(b, nothing, 1) = %s", told(l))
	}
	if n := x.Cut([]byte("x")).Len(); n != 3 {
		t.Errorf("Cut(x).Len() = %d", n)
	}
	y := put(t, x, "b", "9")
	if l := y.Diff(x); told(l) != "<62>:<39> " {
		t.Errorf("Diff = %s", told(l))
	}
	if v, ok := x.Get([]byte("b")); !ok || string(v) != "2" {
		t.Errorf("Get(b) = %s, %v", v, ok)
	}
}

// A tree that is none, one that nobody made, and those of which all was cut, are empty ones.
func TestEmpty(t *testing.T) {
	var none *Tree
	var unmade Tree
	one := of(t, "a", "1")
	for _, x := range []*Tree{none, &unmade, none.Cut([]byte("a")), unmade.Cut(nil), one.Cut([]byte("a")), of(t, "", "").Cut(nil)} {
		model{}.holds(t, x, keys("\x00a\xff", 2))
		for _, most := range []int{math.MinInt, -1, 0, 1, math.MaxInt} {
			if l := x.Range(nil, nil, most); len(l) > 0 {
				t.Errorf("Range of an empty tree: %s", told(l))
			}
		}
		if l := x.Diff(one); len(l) > 0 {
			t.Errorf("Diff of an empty tree: %s", told(l))
		}
		if l := one.Diff(x); told(l) != "<61>:<31> " {
			t.Errorf("Diff with an empty tree: %s", told(l))
		}
		model{}.with("a", "1").holds(t, put(t, x, "a", "1"), keys("ab", 1))
		if y := x.Cut([]byte("a")); y.Len() != 0 {
			t.Errorf("Cut of an empty tree has %d", y.Len())
		}
		if l := x.Diff(nil); len(l) > 0 || len(x.Diff(x)) > 0 {
			t.Errorf("Diff of empty trees: %s", told(l))
		}
	}
	model{}.holds(t, none, nil)
	model{}.holds(t, &unmade, nil)
}

func TestPutReplaces(t *testing.T) {
	x := of(t, "a", "1", "b", "2", "", "0", "b", "3", "a", "")
	model{"": "0", "a": "", "b": "3"}.holds(t, x, keys("ab", 2))
	x = put(t, x, "", "")
	model{"": "", "a": "", "b": "3"}.holds(t, x, keys("ab", 2))
	model{"a": "", "b": "3"}.holds(t, x.Cut(nil), keys("ab", 2))
}

func TestPutRefuses(t *testing.T) {
	long, great := strings.Repeat("k", MaxKey), strings.Repeat("v", MaxValue)
	x := put(t, nil, long, great)
	model{long: great}.holds(t, x, []string{"", "k", long[1:], long, long + "k", "l"})
	x = put(t, x, long[1:], "")
	for _, c := range []struct{ k, v string }{
		{long + "k", ""}, {long + "k", great}, {"", great + "v"}, {long, great + "v"}, {long + "k", great + "v"}, {long[1:], great + "v"}, {"\xff" + long, "1"},
	} {
		for _, x := range []*Tree{x, nil, {}} {
			if y, e := x.Put([]byte(c.k), []byte(c.v)); y != nil || e != api.ErrTree {
				t.Errorf("Put of %d and %d bytes: %v, %v", len(c.k), len(c.v), y, e)
			}
		}
	}
	model{long: great, long[1:]: ""}.holds(t, x, []string{"", "k", long[1:], long, long + "k", "l"})
}

// Keys that are longer than any of a tree are asked for as all others are.
func TestLongKeysAreAskedFor(t *testing.T) {
	long := strings.Repeat("k", MaxKey)
	x := of(t, "j", "1", long, "2", "l", "3")
	m := model{"j": "1", long: "2", "l": "3"}
	for _, k := range []string{long + "k", long + "\x00", strings.Repeat("j", 3*MaxKey), strings.Repeat("l", 3*MaxKey)} {
		m.holds(t, x, []string{k})
		m.holds(t, x.Cut([]byte(k)), []string{k})
		if got, want := x.Range([]byte(k), nil, 9), m.ranged(k, "", 9); !slices.EqualFunc(got, want, same) {
			t.Errorf("Range from a long key: %d pairs, want %d", len(got), len(want))
		}
		if got, want := x.Range(nil, []byte(k), 9), m.ranged("", k, 9); !slices.EqualFunc(got, want, same) {
			t.Errorf("Range to a long key: %d pairs, want %d", len(got), len(want))
		}
	}
}

// numbered is a key that stands as its number does.
func numbered(i int) []byte { return []byte{byte(i >> 24), byte(i >> 16), byte(i >> 8), byte(i)} }

func TestFullTree(t *testing.T) {
	var x *Tree
	for i := range MaxLen {
		// An odd factor turns all numbers below a power of 2 to all of them, in another order.
		y, e := x.Put(numbered(i*40503%MaxLen), nil)
		if e != api.OK {
			t.Fatalf("Put of key %d: %v", i, e)
		}
		x = y
	}
	for _, k := range [][]byte{nil, numbered(MaxLen), {0}, {0, 0, 0, 0, 0}, {0xff}} {
		if y, e := x.Put(k, nil); y != nil || e != api.ErrTree {
			t.Errorf("Put of one more key, % x: %v", k, e)
		}
	}
	for _, i := range []int{0, MaxLen / 3, MaxLen - 1} {
		y, e := x.Put(numbered(i), []byte("new"))
		if e != api.OK || y.Len() != MaxLen {
			t.Fatalf("Put of a key that is there: %v", e)
		}
		if v, ok := y.Get(numbered(i)); !ok || string(v) != "new" {
			t.Errorf("Get: %q, %v", v, ok)
		}
		if l := y.Diff(x); len(l) != 1 || !bytes.Equal(l[0].Key, numbered(i)) {
			t.Errorf("Diff: %s", told(l))
		}
	}
	y := put(t, x.Cut(numbered(7)), "more", "")
	if _, e := y.Put(numbered(7), nil); e != api.ErrTree || y.Len() != MaxLen {
		t.Errorf("Put of a key that was cut and made up for: %v", e)
	}
	if _, e := x.Put(numbered(7), make([]byte, MaxValue+1)); e != api.ErrTree {
		t.Errorf("Put of too long a value: %v", e)
	}
	if l := x.Range(nil, nil, MaxLen+1); len(l) != MaxLen || !bytes.Equal(l[MaxLen-1].Key, numbered(MaxLen-1)) {
		t.Errorf("all: %d pairs", len(l))
	}
	wellMade(t, x.top())
}

func TestRange(t *testing.T) {
	m, x := model{}, (*Tree)(nil)
	for i, k := range keys("\x00a\xff", 2) {
		if i%4 != 3 {
			m, x = m.with(k, string(rune('A'+i))), put(t, x, k, string(rune('A'+i)))
		}
	}
	asked := keys("\x00a\xff", 3)
	for _, from := range asked {
		for _, to := range asked {
			for _, most := range []int{math.MinInt, -1, 0, 1, 2, 5, len(m) - 1, len(m), len(m) + 1, math.MaxInt} {
				got, want := x.Range([]byte(from), []byte(to), most), m.ranged(from, to, most)
				if !slices.EqualFunc(got, want, same) {
					t.Fatalf("Range(%s, %s, %d) = %s, want %s", quoted([]byte(from)), quoted([]byte(to)), most, told(got), told(want))
				}
			}
		}
	}
	if got := x.Range(nil, nil, math.MaxInt); !slices.EqualFunc(got, x.Range([]byte{}, []byte{}, math.MaxInt), same) || len(got) != len(m) {
		t.Errorf("nothing and no byte are unlike: %s", told(got))
	}
}

// Trees of which one was not made of the other are held against each other pair by pair, too.
func TestDiffOfStrangers(t *testing.T) {
	x, y := of(t, "a", "1", "b", "2", "c", "3"), of(t, "d", "4", "c", "3", "b", "", "", "0")
	for _, c := range []struct {
		got  []Pair
		want string
	}{
		{x.Diff(y), "<61>:<31> <62>:<32> "}, {y.Diff(x), "<>:<30> <62>:<> <64>:<34> "}, {x.Diff(x), ""}, {x.Diff(of(t, "c", "3", "b", "2", "a", "1")), ""},
		{x.Diff(nil), "<61>:<31> <62>:<32> <63>:<33> "}, {x.Diff(&Tree{}), "<61>:<31> <62>:<32> <63>:<33> "},
		// A value of no byte is another thing than no key.
		{of(t, "a", "").Diff(nil), "<61>:<> "}, {of(t, "", "").Diff(&Tree{}), "<>:<> "}, {of(t, "a", "").Diff(of(t, "a", "")), ""},
	} {
		if told(c.got) != c.want {
			t.Errorf("Diff = %s, want %s", told(c.got), c.want)
		}
	}
}

// spoil writes to all of some bytes, and to the room behind them.
func spoil(l ...[]byte) {
	for _, b := range l {
		b = b[:cap(b)]
		for i := range b {
			b[i] ^= 0x55
		}
	}
}

func spoilPairs(l []Pair) {
	for _, p := range l {
		spoil(p.Key, p.Value)
	}
}

// What was handed in, and what was answered, is written to: no tree turns by that.
func TestMemoryIsApart(t *testing.T) {
	room := []byte("key and value, with room behind")
	kept := slices.Clone(room)
	x, e := (*Tree)(nil).Put(room[:3], room[8:13])
	if e != api.OK || !bytes.Equal(room, kept) {
		t.Fatalf("Put: %v; what was handed in is %s", e, room)
	}
	y := put(t, put(t, x, "a", "1"), "z", "2")
	spoil(room)
	m := model{"key": "value", "a": "1", "z": "2"}
	asked := []string{"", "a", "b", "key", "keys", "z"}
	m.holds(t, y, asked)
	for range 2 {
		v, _ := y.Get([]byte("key"))
		spoil(v)
		p, _ := y.Seek([]byte("b"))
		q, _ := y.Back([]byte("b"))
		r, _ := y.At(2)
		spoilPairs([]Pair{p, q, r})
		spoilPairs(y.Range(nil, nil, 9))
		spoilPairs(y.Diff(x))
		spoilPairs(y.Diff(nil))
		m.holds(t, y, asked)
	}
	model{"key": "value"}.holds(t, x, asked)
}

// Within one answer, too, each list is apart from all others.
func TestPairsOfAnAnswerAreApart(t *testing.T) {
	x := of(t, "aa", "11", "bb", "22", "cc", "33", "dd", "44")
	for _, ask := range []func() []Pair{
		func() []Pair { return x.Range(nil, nil, 9) },
		func() []Pair { return x.Diff(nil) },
		func() []Pair { p, _ := x.Seek(nil); return []Pair{p} },
		func() []Pair { p, _ := x.Back([]byte("d")); return []Pair{p} },
		func() []Pair { p, _ := x.At(1); return []Pair{p} },
	} {
		l := ask()
		for i := range 2 * len(l) {
			m := ask()
			if i%2 == 0 {
				spoil(m[i/2].Key)
				m[i/2].Key = l[i/2].Key
			} else {
				spoil(m[i/2].Value)
				m[i/2].Value = l[i/2].Value
			}
			if !slices.EqualFunc(l, m, same) {
				t.Fatalf("writing to one list turned another one: %s", told(m))
			}
		}
	}
}

// What calls are asked with is only read.
func TestArgumentsStay(t *testing.T) {
	x := of(t, "a", "1", "b", "2", "c", "3")
	room := []byte("bbbb")
	b := room[:1]
	for _, ask := range []func(){
		func() { x.Put(b, b) }, func() { x.Cut(b) }, func() { x.Get(b) }, func() { x.Seek(b) }, func() { x.Back(b) }, func() { x.Rank(b) },
		func() { x.Range(b, b, 3) }, func() { x.Range(nil, b, 3) }, func() { x.Range(b, nil, 3) },
	} {
		ask()
		if string(room) != "bbbb" {
			t.Fatalf("what was handed in is %s", room)
		}
	}
	model{"a": "1", "b": "2", "c": "3"}.holds(t, x, keys("abc", 2))
}

// A tree that one overwrites by another one does not turn those that were made of it.
func TestTreesAreApart(t *testing.T) {
	x := *of(t, "a", "1")
	cut, again := x.Cut([]byte("b")), put(t, &x, "a", "1")
	x = *put(t, &x, "c", "3")
	model{"a": "1"}.holds(t, cut, keys("abc", 1))
	model{"a": "1"}.holds(t, again, keys("abc", 1))
	model{"a": "1", "c": "3"}.holds(t, &x, keys("abc", 1))
}
