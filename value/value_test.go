package value

import (
	"math"
	"math/rand"
	"slices"
	"strings"
	"testing"

	"daybook/api"
)

// allowed are values at the edges of what may be.
func allowed() []api.Value {
	return []api.Value{
		{Kind: api.KInt, N: math.MinInt64}, {Kind: api.KInt, N: -10}, {Kind: api.KInt, N: -1}, {Kind: api.KInt}, {Kind: api.KInt, N: 7}, {Kind: api.KInt, N: math.MaxInt64},
		{Kind: api.KBool}, {Kind: api.KBool, N: 1},
		{Kind: api.KText}, {Kind: api.KText, S: "\x00"}, {Kind: api.KText, S: "\n\xff"}, {Kind: api.KText, S: `"`}, {Kind: api.KText, S: `\`}, {Kind: api.KText, S: `\22`}, {Kind: api.KText, S: "a"}, {Kind: api.KText, S: "a\x00"}, {Kind: api.KText, S: "ab"}, {Kind: api.KText, S: "é"}, {Kind: api.KText, S: strings.Repeat("\xff", api.MaxText)},
		{Kind: api.KBytes}, {Kind: api.KBytes, S: "\x00\xff"}, {Kind: api.KBytes, S: strings.Repeat("\xab", api.MaxText)},
		{Kind: api.KRef}, {Kind: api.KRef, N: 1}, {Kind: api.KRef, N: api.MaxEntity - 1},
		{Kind: api.KTime, N: api.MinTime}, {Kind: api.KTime, N: -3}, {Kind: api.KTime}, {Kind: api.KTime, N: api.MaxTime},
		{Kind: api.KWord, S: "a"}, {Kind: api.KWord, S: "a-b"}, {Kind: api.KWord, S: "a.b/c-d_9"}, {Kind: api.KWord, S: "a/"}, {Kind: api.KWord, S: "z" + strings.Repeat("9", api.MaxWord-1)},
	}
}

// refused are values that may not be.
func refused() []api.Value {
	return []api.Value{
		{}, {N: 1}, {S: "a"}, {Kind: -1}, {Kind: 8}, {Kind: 8, N: 1, S: "a"}, {Kind: 9}, {Kind: math.MaxInt}, {Kind: math.MinInt},
		{Kind: api.KInt, S: "1"}, {Kind: api.KInt, N: 1, S: "\x00"},
		{Kind: api.KBool, N: 2}, {Kind: api.KBool, N: -1}, {Kind: api.KBool, N: math.MaxInt64}, {Kind: api.KBool, N: math.MinInt64}, {Kind: api.KBool, N: 1, S: "true"},
		{Kind: api.KText, N: 1}, {Kind: api.KText, N: -1, S: "a"}, {Kind: api.KText, S: strings.Repeat("a", api.MaxText+1)},
		{Kind: api.KBytes, N: 1}, {Kind: api.KBytes, N: -1, S: "a"}, {Kind: api.KBytes, S: strings.Repeat("a", api.MaxText+1)},
		{Kind: api.KRef, N: -1}, {Kind: api.KRef, N: api.MaxEntity}, {Kind: api.KRef, N: math.MaxInt64}, {Kind: api.KRef, N: math.MinInt64}, {Kind: api.KRef, N: 1, S: "a"},
		{Kind: api.KTime, S: "1"}, {Kind: api.KTime, N: api.MaxTime, S: "a"},
		{Kind: api.KWord}, {Kind: api.KWord, N: 1, S: "a"}, {Kind: api.KWord, N: -1, S: "a"}, {Kind: api.KWord, S: strings.Repeat("a", api.MaxWord+1)},
		{Kind: api.KWord, S: "9"}, {Kind: api.KWord, S: ".a"}, {Kind: api.KWord, S: "_a"}, {Kind: api.KWord, S: "-a"}, {Kind: api.KWord, S: "/a"}, {Kind: api.KWord, S: "A"}, {Kind: api.KWord, S: "aB"}, {Kind: api.KWord, S: "a b"}, {Kind: api.KWord, S: "a:"}, {Kind: api.KWord, S: "é"}, {Kind: api.KWord, S: "a\x00"},
	}
}

func TestCheck(t *testing.T) {
	for _, v := range allowed() {
		if e := Check(v); e != api.OK {
			t.Errorf("Check(%v) = %v, want OK", v, e)
		}
	}
	for _, v := range refused() {
		if e := Check(v); e != api.ErrKind {
			t.Errorf("Check(%v) = %v, want ErrKind", v, e)
		}
	}
}

func TestCheckBytesOfWords(t *testing.T) {
	const letters = "abcdefghijklmnopqrstuvwxyz"
	for c := range 256 {
		b := string([]byte{byte(c)})
		first := Check(api.Value{Kind: api.KWord, S: b}) == api.OK
		if first != strings.Contains(letters, b) {
			t.Errorf("a word that begins with %02x: %v", c, first)
		}
		later := Check(api.Value{Kind: api.KWord, S: "a" + b + "a"}) == api.OK
		if later != strings.Contains(letters+"0123456789._-/", b) {
			t.Errorf("a word that has %02x: %v", c, later)
		}
	}
}

// rising are values in order, those that may not be among them.
func rising() []api.Value {
	return []api.Value{
		{Kind: math.MinInt, N: 5, S: "z"}, {Kind: -1}, {}, {S: "a"}, {N: 1},
		{Kind: api.KInt, N: math.MinInt64}, {Kind: api.KInt, N: -1, S: "z"}, {Kind: api.KInt}, {Kind: api.KInt, N: 1}, {Kind: api.KInt, N: 1, S: "a"}, {Kind: api.KInt, N: 2}, {Kind: api.KInt, N: 10}, {Kind: api.KInt, N: math.MaxInt64},
		{Kind: api.KBool}, {Kind: api.KBool, N: 1},
		{Kind: api.KText, N: -1, S: "z"}, {Kind: api.KText}, {Kind: api.KText, S: "\x00"}, {Kind: api.KText, S: "Z"}, {Kind: api.KText, S: "a"}, {Kind: api.KText, S: "a\x00"}, {Kind: api.KText, S: "ab"}, {Kind: api.KText, S: "b"}, {Kind: api.KText, S: "\x7f"}, {Kind: api.KText, S: "\x80"}, {Kind: api.KText, S: "\xff"}, {Kind: api.KText, S: "\xff\x00"}, {Kind: api.KText, N: 1},
		{Kind: api.KBytes}, {Kind: api.KBytes, S: "a"},
		{Kind: api.KRef, N: -1}, {Kind: api.KRef}, {Kind: api.KRef, N: api.MaxEntity - 1}, {Kind: api.KRef, N: api.MaxEntity},
		{Kind: api.KTime, N: api.MinTime}, {Kind: api.KTime, N: 1}, {Kind: api.KTime, N: api.MaxTime},
		{Kind: api.KWord, S: "a"}, {Kind: api.KWord, S: "a/b"}, {Kind: api.KWord, S: "b"},
		{Kind: 8}, {Kind: math.MaxInt, N: -5},
	}
}

func TestCompare(t *testing.T) {
	l := rising()
	for i, a := range l {
		for j, b := range l {
			want := 0
			if i < j {
				want = -1
			} else if i > j {
				want = 1
			}
			if got := Compare(a, b); got != want {
				t.Errorf("Compare(%v, %v) = %d, want %d", a, b, got, want)
			}
		}
	}
}

func TestSorted(t *testing.T) {
	want := rising()
	turned := rand.New(rand.NewSource(1))
	for range 50 {
		l := append(rising(), want[turned.Intn(len(want))], want[0], want[len(want)-1])
		turned.Shuffle(len(l), func(i, j int) { l[i], l[j] = l[j], l[i] })
		kept := slices.Clone(l)
		got := Sorted(l)
		if !slices.Equal(got, want) {
			t.Fatalf("Sorted(%v) = %v", l, got)
		}
		if !slices.Equal(l, kept) {
			t.Fatal("Sorted turned what was handed in")
		}
	}
	for _, l := range [][]api.Value{nil, {}} {
		if got := Sorted(l); len(got) != 0 {
			t.Errorf("Sorted of nothing = %v", got)
		}
	}
	same := []api.Value{{Kind: api.KInt}, {Kind: api.KInt}, {Kind: api.KInt}}
	if got := Sorted(same); !slices.Equal(got, same[:1]) {
		t.Errorf("Sorted of one value thrice = %v", got)
	}
}

// What is handed in has room behind it: neither it nor that room is to be written to, and the answer is apart from both.
func TestSortedIsNewMemory(t *testing.T) {
	room := []api.Value{{Kind: api.KInt, N: 1}, {Kind: api.KInt, N: 2}, {Kind: api.KInt, N: 3}}
	kept := slices.Clone(room)
	got := Sorted(room[:2])
	got[0].N, got[1].N = 8, 9
	got = append(got, api.Value{Kind: api.KInt, N: 10})
	if !slices.Equal(room, kept) {
		t.Errorf("writing to the answer %v turned what was handed in to %v", got, room)
	}
}
