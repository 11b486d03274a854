package calc

import (
	"math"
	"strings"
	"testing"

	"daybook/api"
	"daybook/value"
)

// read is the value of a text.
func read(s string) api.Value {
	v, e := value.Parse(s)
	if e != api.OK {
		panic(s)
	}
	return v
}

// list are the values of texts, with a blank between.
func list(s string) []api.Value {
	var l []api.Value
	for _, f := range strings.Fields(s) {
		l = append(l, read(f))
	}
	return l
}

func long(kind int, piece string, times int) api.Value {
	return api.Value{Kind: kind, S: strings.Repeat(piece, times)}
}

func kText(s string) api.Value { return api.Value{Kind: api.KText, S: s} }

func kBytes(s string) api.Value { return api.Value{Kind: api.KBytes, S: s} }

// edges are numbers at which something turns: squares, products and sums that just are, or go round.
func edges() []int64 {
	l := []int64{0, 1, 2, 3, 5, 7, 8, 10, 999, 1000, 1001, 46341, 3037000499, 3037000500, 3037000501, 1 << 31, 1 << 32, 1<<32 + 1, 1<<53 - 1, 1 << 53, 1 << 61, 1 << 62, 1<<62 + 1, math.MaxInt64 / 3, math.MaxInt64 / 2, math.MaxInt64 - 1, math.MaxInt64}
	for _, n := range l[1:] {
		l = append(l, -n)
	}
	return append(l, math.MinInt64)
}

// allowed are values that may be, of all kinds.
func allowed() []api.Value {
	l := list(`false true @0 @1 @7 @9007199254740991 !0 !5 !-5 !9223372036854775807 !-9223372036854775808 :a :ab :abc :b :user :user/name :name :true # #00 #61 #62 #6162 #616263 #ff "" "a" "b" "ab" "abc" "bc" "aab" "user" "user/name" "\00" "\ff" "\22" "5" "-5" "-0" "!5" "!-5" "@7" "@-1" ":a" ":A" "#61" "#6" "true" "false" "nothing" "\22a\22" "\22a" "9223372036854775808"`)
	for _, n := range edges() {
		l = append(l, number(n))
	}
	l = append(l, long(api.KWord, "a", api.MaxWord))
	for _, kind := range []int{api.KText, api.KBytes} {
		l = append(l, long(kind, "a", api.MaxText/2), long(kind, "a", api.MaxText-1), long(kind, "a", api.MaxText))
	}
	// Whose texts are just as long as a text may be, or just too long.
	return append(l, long(api.KText, "a", 998), long(api.KText, `"`, 332), long(api.KText, "\xff", 333), kText(strings.Repeat("\xff", 332)+"aa"), kText(strings.Repeat("\xff", 332)+"aaa"), long(api.KBytes, "a", 499))
}

// refused are values that may not be.
func refused() []api.Value {
	return []api.Value{
		{}, {N: 1}, {Kind: 8}, {Kind: 9}, {Kind: 9, N: 1}, {Kind: -1}, {Kind: math.MinInt}, {Kind: math.MaxInt},
		{Kind: api.KInt, S: "1"}, {Kind: api.KBool, N: 2}, {Kind: api.KBool, N: -1},
		{Kind: api.KText, N: 1}, long(api.KText, "a", api.MaxText+1), {Kind: api.KBytes, N: 1}, long(api.KBytes, "a", api.MaxText+1),
		{Kind: api.KRef, N: -1}, {Kind: api.KRef, N: api.MaxEntity}, {Kind: api.KTime, S: "0"},
		{Kind: api.KWord}, {Kind: api.KWord, S: "A"}, {Kind: api.KWord, S: "a", N: 1}, long(api.KWord, "a", api.MaxWord+1),
	}
}

// brief are values as texts that are not too long.
func brief(l ...api.Value) string {
	var said []string
	for _, v := range l {
		s, e := value.Text(v)
		if e != api.OK {
			s = "one that may not be"
		}
		if len(s) > 40 {
			s = s[:40] + ".."
		}
		said = append(said, s)
	}
	return strings.Join(said, " ")
}

// expectTest asks what a predicate says.
func expectTest(t *testing.T, name string, l []api.Value, want bool, wantE api.Errno) {
	t.Helper()
	if got, e := Test(name, l); got != want || e != wantE {
		t.Errorf("Test of %s and %s = %v, %v, want %v, %v", name, brief(l...), got, e, want, wantE)
	}
}

// expectDo asks what a function answers.
func expectDo(t *testing.T, name string, l []api.Value, want api.Value, wantIs bool, wantE api.Errno) {
	t.Helper()
	if got, is, e := Do(name, l); got != want || is != wantIs || e != wantE {
		t.Errorf("Do of %s and %s = %s, %v, %v, want %s, %v, %v", name, brief(l...), brief(got), is, e, brief(want), wantIs, wantE)
	}
}
