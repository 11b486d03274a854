package order

import (
	"bytes"
	"math"
	"math/rand"
	"slices"
	"strings"
	"testing"

	"daybook/api"
)

func TestRead(t *testing.T) {
	for _, x := range []struct {
		b     string
		kinds []bool
		want  []api.Part
	}{
		{"", nil, nil}, {"", []bool{}, nil},
		{"02 01", []bool{true}, []api.Part{of(api.Value{Kind: api.KBool, N: 1})}},
		{"02 00", []bool{true}, []api.Part{of(api.Value{Kind: api.KBool})}},
		{"80 00 00 00 00 00 00 00", []bool{false}, []api.Part{number(0)}},
		{"00 00 00 00 00 00 00 00", []bool{false}, []api.Part{number(math.MinInt64)}},
		{"ff ff ff ff ff ff ff ff", []bool{false}, []api.Part{number(math.MaxInt64)}},
		{"01 7f ff ff ff ff ff ff ff", []bool{true}, []api.Part{of(api.Value{Kind: api.KInt, N: -1})}},
		{"03 61 00 ff 00 01", []bool{true}, []api.Part{of(api.Value{Kind: api.KText, S: "a\x00"})}},
		{"03 00 01 03 00 ff 00 01", []bool{true, true}, []api.Part{of(api.Value{Kind: api.KText}), of(api.Value{Kind: api.KText, S: "\x00"})}},
		{"04 01 ff 00 ff ff 00 01", []bool{true}, []api.Part{of(api.Value{Kind: api.KBytes, S: "\x01\xff\x00\xff"})}},
		{"80 00 00 00 00 00 00 05 07 61 00 01 80 00 00 00 00 00 00 06", []bool{false, true, false}, []api.Part{number(5), of(api.Value{Kind: api.KWord, S: "a"}), number(6)}},
		// The kinds alone say what bytes are: values' bytes may be a number's.
		{"02 01 02 01 02 01 02 01 02 00", []bool{false, true}, []api.Part{number(0x0201020102010201 - math.MaxInt64 - 1), of(api.Value{Kind: api.KBool})}},
	} {
		if got, e := Read(fromHex(t, x.b), x.kinds); e != api.OK || !slices.Equal(got, x.want) {
			t.Errorf("Read(%s, %v) = %v, %v, want %v", x.b, x.kinds, got, e, x.want)
		}
	}
}

func TestReadOfNoKeys(t *testing.T) {
	for _, x := range []struct {
		b     string
		kinds []bool
	}{
		{"02 02", []bool{true}}, {"02", []bool{true}}, {"02 ff", []bool{true}}, {"02 01 00", []bool{true}},
		{"", []bool{true}}, {"", []bool{false}}, {"00", nil}, {"02 01", nil},
		{"00 00 01", []bool{true}}, {"08 00 01", []bool{true}}, {"ff 00 01", []bool{true}},
		{"80 00 00 00 00 00 00", []bool{false}}, {"80 00 00 00 00 00 00 00 00", []bool{false}}, {"80 00 00 00 00 00 00 00", []bool{false, false}}, {"80 00 00 00 00 00 00 00", []bool{true}},
		{"01", []bool{true}}, {"01 80 00 00 00 00 00 00", []bool{true}}, {"01 80 00 00 00 00 00 00 00 00", []bool{true}}, {"06 80 00 00 00 00 00 00", []bool{true}},
		{"05 7f ff ff ff ff ff ff ff", []bool{true}}, {"05 80 20 00 00 00 00 00 00", []bool{true}}, {"05 00 00 00 00 00 00 00 00", []bool{true}}, {"05 80 00 00 00 00 00 00", []bool{true}},
		{"03", []bool{true}}, {"03 61", []bool{true}}, {"03 61 00", []bool{true}}, {"03 61 01", []bool{true}}, {"03 61 00 ff", []bool{true}}, {"03 61 00 ff 00", []bool{true}}, {"03 61 00 00 01", []bool{true}}, {"03 61 00 02", []bool{true}}, {"03 61 00 fe 00 01", []bool{true}}, {"03 61 00 01 00", []bool{true}}, {"03 00 01 00 01", []bool{true}},
		{"07 00 01", []bool{true}}, {"07 41 00 01", []bool{true}}, {"07 61 00 ff 00 01", []bool{true}}, {"07 39 00 01", []bool{true}}, {"07 61 ff 00 01", []bool{true}},
		{"02 01", []bool{true, true}}, {"02 01", []bool{true, false}}, {"02 01 02 01", []bool{true}}, {"02 01 02 02", []bool{true, true}},
		{"03" + strings.Repeat("61", api.MaxText+1) + "0001", []bool{true}}, {"04" + strings.Repeat("00ff", api.MaxText+1) + "0001", []bool{true}}, {"07" + strings.Repeat("61", api.MaxWord+1) + "0001", []bool{true}},
		{"02 01", make([]bool, 100000)},
	} {
		if got, e := Read(fromHex(t, x.b), x.kinds); e != api.ErrBytes || len(got) != 0 {
			t.Errorf("Read(%s, %d kinds) = %v, %v, want nothing and ErrBytes", x.b, len(x.kinds), got, e)
		}
	}
}

// thereAndBack says whether Read of parts' key are the parts, and whether less or more than it is no key of theirs.
func thereAndBack(t *testing.T, l []api.Part) {
	t.Helper()
	key, e := Key(l)
	if e != api.OK {
		t.Fatalf("Key(%v): %v", l, e)
	}
	kinds := kindsOf(l)
	if back, e := Read(key, kinds); e != api.OK || !slices.Equal(back, l) {
		t.Fatalf("Read of the key of %v = %v, %v", l, back, e)
	}
	for n := range len(key) {
		if back, e := Read(key[:n], kinds); e != api.ErrBytes || len(back) != 0 {
			t.Fatalf("Read of the first %d bytes of the key of %v = %v, %v", n, l, back, e)
		}
	}
	for c := range 256 {
		if back, e := Read(append(slices.Clone(key), byte(c)), kinds); e != api.ErrBytes || len(back) != 0 {
			t.Fatalf("Read of the key of %v and %02x = %v, %v", l, c, back, e)
		}
	}
}

func TestReadOfKey(t *testing.T) {
	thereAndBack(t, nil)
	for _, n := range numbers() {
		thereAndBack(t, []api.Part{number(n)})
	}
	for _, v := range values() {
		thereAndBack(t, []api.Part{of(v)})
	}
	r := rand.New(rand.NewSource(2))
	vs, ns := values(), numbers()
	for range 300 {
		var l []api.Part
		for range r.Intn(8) {
			p := of(vs[r.Intn(len(vs))])
			if r.Intn(2) == 0 || len(p.V.S) > 100 {
				p = number(ns[r.Intn(len(ns))])
			}
			l = append(l, p)
		}
		thereAndBack(t, l)
	}
}

// All short bytes of some: those that are read are the key of what is read, and each short key is read.
func TestReadOfAllShortBytes(t *testing.T) {
	all := short([]byte{0, 1, 2, 3, 4, 7, 8, 'a', 0xff}, 5)
	keys := map[string]bool{}
	for _, kinds := range [][]bool{nil, {true}, {true, true}, {false}, {true, false}} {
		for _, b := range all {
			l, e := Read(b, kinds)
			if e != api.OK {
				if e != api.ErrBytes || len(l) != 0 {
					t.Fatalf("Read(% x, %v) = %v, %v", b, kinds, l, e)
				}
				continue
			}
			if back, e := Key(l); e != api.OK || !bytes.Equal(back, b) || !slices.Equal(kindsOf(l), kinds) {
				t.Fatalf("Read(% x, %v) = %v, whose key is % x, %v", b, kinds, l, back, e)
			}
			if len(kinds) == 1 {
				keys[string(b)] = true
			}
		}
	}
	many := 0
	for _, s := range short([]byte{0, 1, 2, 3, 4, 7, 8, 'a', 0xff}, 3) {
		for kind := range 9 {
			b, e := Value(api.Value{Kind: kind, S: string(s)})
			if e == api.OK && len(b) <= 5 {
				many++
				if !keys[string(b)] {
					t.Errorf("the bytes % x of the value of kind %d and % x are not read", b, kind, s)
				}
			}
		}
	}
	// Of KBool just 0 is among these values.
	if many < 100 || len(keys) != many+1 {
		t.Errorf("%d short values, but %d that were read", many, len(keys))
	}
}

// A key with a byte turned is none, or that of other parts.
func TestReadOfTurnedKeys(t *testing.T) {
	r := rand.New(rand.NewSource(3))
	vs, ns := values(), numbers()
	for range 5000 {
		l := []api.Part{of(vs[r.Intn(len(vs))]), number(ns[r.Intn(len(ns))]), of(vs[r.Intn(len(vs))])}
		b, _ := Key(l)
		b[r.Intn(len(b))] ^= byte(1 + r.Intn(255))
		got, e := Read(b, kindsOf(l))
		if e != api.OK {
			if e != api.ErrBytes || len(got) != 0 {
				t.Fatalf("Read(% x) = %v, %v", b, got, e)
			}
			continue
		}
		if back, e := Key(got); e != api.OK || !bytes.Equal(back, b) || slices.Equal(got, l) {
			t.Fatalf("Read(% x) = %v, whose key is % x, %v", b, got, back, e)
		}
	}
}

// What is read is apart from the bytes it was read from, and from what is read of them again.
func TestReadIsNewMemory(t *testing.T) {
	l := []api.Part{of(api.Value{Kind: api.KText, S: "abc"}), number(1), of(api.Value{Kind: api.KBytes, S: "a\x00b"}), of(api.Value{Kind: api.KWord, S: "w"})}
	b, _ := Key(l)
	kinds := kindsOf(l)
	kept, keptKinds := slices.Clone(b), slices.Clone(kinds)
	got, _ := Read(b, kinds)
	again, _ := Read(b, kinds)
	if !bytes.Equal(b, kept) || !slices.Equal(kinds, keptKinds) {
		t.Fatal("Read turned what was handed in")
	}
	spoil(b)
	kinds[0] = false
	if !slices.Equal(got, l) {
		t.Errorf("writing to the bytes turned what was read of them to %v", got)
	}
	got[0], got[1] = api.Part{}, api.Part{}
	if !slices.Equal(again, l) {
		t.Errorf("two answers of Read share memory: %v", again)
	}
}

// What tells parts stops when no more is wanted, and tells them all when asked again.
func TestToldStops(t *testing.T) {
	l := []api.Part{number(1), of(api.Value{Kind: api.KBool, N: 1}), number(2)}
	key, _ := Key(l)
	seq := told(key, kindsOf(l))
	for most := 1; most <= len(l); most++ {
		var got []api.Part
		for p := range seq {
			got = append(got, p)
			if len(got) == most {
				break
			}
		}
		if !slices.Equal(got, l[:most]) {
			t.Errorf("the first %d parts: %v", most, got)
		}
	}
}
