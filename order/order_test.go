package order

import (
	"bytes"
	"cmp"
	"encoding/hex"
	"math"
	"math/rand"
	"slices"
	"strings"
	"testing"

	"daybook/api"
	"daybook/value"
)

// fromHex are the bytes of a text of hexadecimal digits, with blanks as one likes.
func fromHex(t *testing.T, s string) []byte {
	t.Helper()
	b, err := hex.DecodeString(strings.ReplaceAll(s, " ", ""))
	if err != nil {
		t.Fatal(err)
	}
	return b
}

func number(n int64) api.Part { return api.Part{N: n} }

func of(v api.Value) api.Part { return api.Part{Value: true, V: v} }

func kindsOf(l []api.Part) []bool {
	var kinds []bool
	for _, p := range l {
		kinds = append(kinds, p.Value)
	}
	return kinds
}

// numbers are rising, with the ends of all ranges and the bytes 0 and 255 among them.
func numbers() []int64 {
	return []int64{math.MinInt64, math.MinInt64 + 1, -1 << 56, -1<<32 - 1, -1 << 32, -257, -256, -255, -2, -1, 0, 1, 2, 127, 128, 255, 256, 257, 1<<32 - 1, 1 << 32, api.MaxTx, api.MaxEntity - 1, api.MaxEntity, 1 << 56, math.MaxInt64 - 1, math.MaxInt64}
}

// values are rising values that may be, with the ends of all ranges and the bytes 0 and 255 among them.
func values() []api.Value {
	var l []api.Value
	for _, n := range numbers() {
		l = append(l, api.Value{Kind: api.KInt, N: n}, api.Value{Kind: api.KTime, N: n})
		if n >= 0 && n < api.MaxEntity {
			l = append(l, api.Value{Kind: api.KRef, N: n})
		}
	}
	l = append(l, api.Value{Kind: api.KBool}, api.Value{Kind: api.KBool, N: 1})
	for _, s := range []string{"", "\x00", "\x00\x00", "\x00\x01", "\x00\x02", "\x00\xff", "\x00\xff\x00", "\x01", "\x01\x00", "a", "a\x00", "a\x00\x00", "a\x00\x01", "a\x00b", "a\x00\xff", "a\x00\xff\x00\x01", "a\x01", "ab", "b", "\xfe", "\xff", "\xff\x00", "\xff\x00\xff", "\xff\x01", "\xff\xff", strings.Repeat("\x00", api.MaxText), strings.Repeat("\x00", api.MaxText-1), strings.Repeat("\xff", api.MaxText)} {
		l = append(l, api.Value{Kind: api.KText, S: s}, api.Value{Kind: api.KBytes, S: s})
	}
	for _, s := range []string{"a", "a-", "a.b", "a/", "a/b", "a0", "a_", "ab", "b", "z", "z" + strings.Repeat("9", api.MaxWord-1)} {
		l = append(l, api.Value{Kind: api.KWord, S: s})
	}
	return value.Sorted(l)
}

// refused are values that may not be, of each kind, and at each end of a range.
func refused() []api.Value {
	return []api.Value{
		{}, {N: 1}, {S: "a"}, {Kind: -1}, {Kind: 8}, {Kind: 256 + api.KInt}, {Kind: math.MaxInt},
		{Kind: api.KInt, S: "a"}, {Kind: api.KTime, S: "a"}, {Kind: api.KRef, S: "a"}, {Kind: api.KBool, S: "a"},
		{Kind: api.KBool, N: 2}, {Kind: api.KBool, N: -1}, {Kind: api.KBool, N: 256},
		{Kind: api.KRef, N: -1}, {Kind: api.KRef, N: api.MaxEntity},
		{Kind: api.KText, N: 1}, {Kind: api.KText, S: strings.Repeat("a", api.MaxText+1)},
		{Kind: api.KBytes, N: 1}, {Kind: api.KBytes, S: strings.Repeat("a", api.MaxText+1)},
		{Kind: api.KWord}, {Kind: api.KWord, S: "A"}, {Kind: api.KWord, S: "a\x00"}, {Kind: api.KWord, S: "a", N: 1}, {Kind: api.KWord, S: strings.Repeat("a", api.MaxWord+1)},
	}
}

func TestNumber(t *testing.T) {
	for _, x := range []struct {
		n    int64
		want string
	}{
		{0, "80 00 00 00 00 00 00 00"}, {-1, "7f ff ff ff ff ff ff ff"}, {1, "80 00 00 00 00 00 00 01"},
		{math.MinInt64, "00 00 00 00 00 00 00 00"}, {math.MaxInt64, "ff ff ff ff ff ff ff ff"},
		{-256, "7f ff ff ff ff ff ff 00"}, {0x0102030405060708, "81 02 03 04 05 06 07 08"}, {-0x0102030405060708, "7e fd fc fb fa f9 f8 f8"},
	} {
		if got := Number(x.n); !bytes.Equal(got, fromHex(t, x.want)) {
			t.Errorf("Number(%d) = % x, want %s", x.n, got, x.want)
		}
	}
	l := numbers()
	for i, a := range l {
		for j, b := range l {
			if got := bytes.Compare(Number(a), Number(b)); got != cmp.Compare(i, j) {
				t.Errorf("bytes of %d and %d stand as %d", a, b, got)
			}
		}
	}
}

func TestValue(t *testing.T) {
	for _, x := range []struct {
		v    api.Value
		want string
	}{
		{api.Value{Kind: api.KInt}, "01 80 00 00 00 00 00 00 00"}, {api.Value{Kind: api.KInt, N: math.MinInt64}, "01 00 00 00 00 00 00 00 00"},
		{api.Value{Kind: api.KBool}, "02 00"}, {api.Value{Kind: api.KBool, N: 1}, "02 01"},
		{api.Value{Kind: api.KText}, "03 00 01"}, {api.Value{Kind: api.KText, S: "a\x00"}, "03 61 00 ff 00 01"}, {api.Value{Kind: api.KText, S: "\x00\x00"}, "03 00 ff 00 ff 00 01"}, {api.Value{Kind: api.KText, S: "\x00\x01"}, "03 00 ff 01 00 01"},
		{api.Value{Kind: api.KBytes, S: "\xff\x00\xff"}, "04 ff 00 ff ff 00 01"}, {api.Value{Kind: api.KBytes, S: "\x01"}, "04 01 00 01"},
		{api.Value{Kind: api.KRef, N: 7}, "05 80 00 00 00 00 00 00 07"}, {api.Value{Kind: api.KRef, N: api.MaxEntity - 1}, "05 80 1f ff ff ff ff ff ff"},
		{api.Value{Kind: api.KTime, N: -1}, "06 7f ff ff ff ff ff ff ff"}, {api.Value{Kind: api.KTime, N: math.MaxInt64}, "06 ff ff ff ff ff ff ff ff"},
		{api.Value{Kind: api.KWord, S: "a/b"}, "07 61 2f 62 00 01"},
		{api.Value{Kind: api.KText, S: strings.Repeat("\x00", api.MaxText)}, "03" + strings.Repeat("00ff", api.MaxText) + "0001"},
	} {
		if got, e := Value(x.v); e != api.OK || !bytes.Equal(got, fromHex(t, x.want)) {
			t.Errorf("Value(%v) = % x, %v, want %s", x.v, got, e, x.want)
		}
	}
	for _, v := range refused() {
		if got, e := Value(v); e != api.ErrKind || len(got) != 0 {
			t.Errorf("Value(%v) = % x, %v, want nothing and ErrKind", v, got, e)
		}
	}
}

func TestKey(t *testing.T) {
	word := of(api.Value{Kind: api.KWord, S: "a"})
	for _, x := range []struct {
		l    []api.Part
		want string
	}{
		{nil, ""}, {[]api.Part{}, ""},
		{[]api.Part{number(0)}, "80 00 00 00 00 00 00 00"},
		{[]api.Part{word}, "07 61 00 01"},
		{[]api.Part{number(1), word, number(-1)}, "80 00 00 00 00 00 00 01 07 61 00 01 7f ff ff ff ff ff ff ff"},
		{[]api.Part{of(api.Value{Kind: api.KText}), of(api.Value{Kind: api.KBytes, S: "\x00"}), of(api.Value{Kind: api.KBool, N: 1})}, "03 00 01 04 00 ff 00 01 02 01"},
		// Of a number N alone counts, of a value V.
		{[]api.Part{{N: 2, V: api.Value{Kind: 9, S: "a"}}}, "80 00 00 00 00 00 00 02"},
		{[]api.Part{{Value: true, N: 2, V: word.V}}, "07 61 00 01"},
	} {
		if got, e := Key(x.l); e != api.OK || !bytes.Equal(got, fromHex(t, x.want)) {
			t.Errorf("Key(%v) = % x, %v, want %s", x.l, got, e, x.want)
		}
	}
	for _, v := range refused() {
		for _, l := range [][]api.Part{{of(v)}, {of(v), number(1)}, {number(1), word, of(v)}} {
			if got, e := Key(l); e != api.ErrKind || len(got) != 0 {
				t.Errorf("Key(%v) = % x, %v, want nothing and ErrKind", l, got, e)
			}
		}
	}
}

// A key of many parts is the bytes of each, one behind the other.
func TestKeyOfManyParts(t *testing.T) {
	var l []api.Part
	var want []byte
	for _, v := range values() {
		for _, n := range numbers() {
			b, e := Value(v)
			if e != api.OK {
				t.Fatalf("Value(%v): %v", v, e)
			}
			l, want = append(l, of(v), number(n)), append(append(want, b...), Number(n)...)
		}
	}
	got, e := Key(l)
	if e != api.OK || !bytes.Equal(got, want) {
		t.Fatalf("the key of %d parts: %d bytes, %v, want %d", len(l), len(got), e, len(want))
	}
	if back, e := Read(got, kindsOf(l)); e != api.OK || !slices.Equal(back, l) {
		t.Errorf("Read of it: %d parts, %v", len(back), e)
	}
}

func TestValuesBytesStandAsValues(t *testing.T) {
	l := values()
	var all [][]byte
	for _, v := range l {
		b, e := Value(v)
		if e != api.OK {
			t.Fatalf("Value(%v): %v", v, e)
		}
		all = append(all, b)
	}
	for i, a := range all {
		for j, b := range all {
			if got := bytes.Compare(a, b); got != cmp.Compare(i, j) {
				t.Errorf("bytes of %v and %v stand as %d", l[i], l[j], got)
			}
			if i != j && bytes.HasPrefix(b, a) {
				t.Errorf("bytes of %v begin those of %v", l[i], l[j])
			}
		}
	}
}

// compare says how parts of the same kinds stand: the first that is unlike decides.
func compare(a, b []api.Part) int {
	for i := range a {
		if c := cmp.Compare(a[i].N, b[i].N); c != 0 {
			return c
		}
		if c := value.Compare(a[i].V, b[i].V); c != 0 {
			return c
		}
	}
	return 0
}

func TestKeysStandAsParts(t *testing.T) {
	r := rand.New(rand.NewSource(1))
	vs, ns := values(), numbers()
	for range 20000 {
		var a, b []api.Part
		for range 1 + r.Intn(4) {
			p, q := number(ns[r.Intn(len(ns))]), number(ns[r.Intn(len(ns))])
			if r.Intn(2) == 0 {
				p, q = of(vs[r.Intn(len(vs))]), of(vs[r.Intn(len(vs))])
			}
			if r.Intn(3) > 0 {
				q = p
			}
			a, b = append(a, p), append(b, q)
		}
		ka, ea := Key(a)
		kb, eb := Key(b)
		if ea != api.OK || eb != api.OK || bytes.Compare(ka, kb) != compare(a, b) {
			t.Fatalf("keys % x (%v) and % x (%v) of %v and %v, which stand as %d", ka, ea, kb, eb, a, b, compare(a, b))
		}
	}
}

func TestEnd(t *testing.T) {
	for _, x := range []struct{ b, want string }{
		{"61 ff", "62"}, {"00", "01"}, {"61", "62"}, {"fe", "ff"}, {"61 00", "61 01"}, {"00 ff ff", "01"}, {"ff fe", "ff ff"}, {"ff 00 ff", "ff 01"}, {"61 fe ff ff", "61 ff"}, {"61 ff 62", "61 ff 63"},
	} {
		if got, ok := End(fromHex(t, x.b)); !ok || !bytes.Equal(got, fromHex(t, x.want)) {
			t.Errorf("End(%s) = % x, %v, want %s", x.b, got, ok, x.want)
		}
	}
	for _, b := range [][]byte{nil, {}, {0xff}, {0xff, 0xff}, bytes.Repeat([]byte{0xff}, 1000)} {
		if got, ok := End(b); ok || len(got) != 0 {
			t.Errorf("End(% x) = % x, %v, want none", b, got, ok)
		}
	}
}

// short are all bytes of at most so many out of some, in order.
func short(of []byte, most int) [][]byte {
	all := [][]byte{{}}
	if most > 0 {
		for _, c := range of {
			for _, rest := range short(of, most-1) {
				all = append(all, append([]byte{c}, rest...))
			}
		}
	}
	return all
}

// What End answers is the least of all bytes that do not begin with a prefix and stand behind all that do.
func TestEndIsTheLeast(t *testing.T) {
	all := short([]byte{0, 1, 0xfe, 0xff}, 4)
	for _, b := range short([]byte{0, 1, 0xfe, 0xff}, 3) {
		end, ok := End(b)
		for _, x := range all {
			behind := bytes.Compare(x, b) > 0 && !bytes.HasPrefix(x, b)
			if behind != (ok && bytes.Compare(x, end) >= 0) {
				t.Fatalf("End(% x) = % x, %v, yet % x", b, end, ok, x)
			}
		}
	}
}

// What is handed in has room behind it: neither it nor that room is written to, and what is answered is apart from both.
func TestAnswersAreNewMemory(t *testing.T) {
	room := []byte{0x61, 0xff, 0xff, 0x62, 0x63}
	kept := slices.Clone(room)
	for n := range len(room) + 1 {
		end, ok := End(room[:n])
		spoil(end)
		if !bytes.Equal(room, kept) {
			t.Fatalf("End of the first %d bytes (%v) turned them, or writing to what it answered did", n, ok)
		}
	}
	a, b := Number(5), Number(5)
	spoil(a)
	if !bytes.Equal(b, Number(5)) {
		t.Error("two answers of Number share memory")
	}
	v := api.Value{Kind: api.KText, S: "a\x00"}
	a, _ = Value(v)
	b, _ = Value(v)
	spoil(a)
	if again, _ := Value(v); !bytes.Equal(b, again) || v.S != "a\x00" {
		t.Error("two answers of Value share memory")
	}
	parts := []api.Part{number(1), of(v), number(2)}
	keptParts := slices.Clone(parts)
	a, _ = Key(parts[:2])
	b, _ = Key(parts[:2])
	spoil(a)
	if again, _ := Key(parts[:2]); !bytes.Equal(b, again) || !slices.Equal(parts, keptParts) {
		t.Error("Key's answers share memory, or its parts were turned")
	}
}

// spoil writes to all of an answer, and to the room behind it.
func spoil(b []byte) {
	b = b[:cap(b)]
	for i := range b {
		b[i] ^= 0x55
	}
}
