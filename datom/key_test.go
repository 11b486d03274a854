package datom

import (
	"bytes"
	"encoding/hex"
	"math"
	"math/rand"
	"slices"
	"strings"
	"testing"

	"daybook/api"
	"daybook/order"
)

// The bytes of numbers, and of the value @7.
const (
	min64  = "00 00 00 00 00 00 00 00 "
	max64  = "ff ff ff ff ff ff ff ff "
	minus1 = "7f ff ff ff ff ff ff ff "
	zero   = "80 00 00 00 00 00 00 00 "
	one    = "80 00 00 00 00 00 00 01 "
	two    = "80 00 00 00 00 00 00 02 "
	five   = "80 00 00 00 00 00 00 05 "
	ten    = "80 00 00 00 00 00 00 0a "
	ref7   = "05 80 00 00 00 00 00 00 07 "
	txEnd  = "80 00 01 00 00 00 00 00 " // MaxTx
	txOver = "80 00 01 00 00 00 00 01 "
	entEnd = "80 1f ff ff ff ff ff ff " // MaxEntity - 1
	noEnt  = "80 20 00 00 00 00 00 00 "
)

// fromHex are the bytes of a text of hexadecimal digits, with blanks as one likes.
func fromHex(t *testing.T, s string) []byte {
	t.Helper()
	b, err := hex.DecodeString(strings.ReplaceAll(s, " ", ""))
	if err != nil {
		t.Fatal(err)
	}
	return b
}

// keyed are datoms with their keys, written out.
func keyed() []struct {
	order int
	d     api.Datom
	key   string
} {
	d := example()
	ends := api.Datom{E: api.MaxEntity - 1, A: 0, V: text("a\x00"), T: api.MaxTx, From: -1, To: 0}
	return []struct {
		order int
		d     api.Datom
		key   string
	}{
		{api.EAVT, d, five + ten + ref7 + one + zero + min64 + max64},
		{api.AEVT, d, ten + five + ref7 + one + zero + min64 + max64},
		{api.AVET, d, ten + ref7 + five + one + zero + min64 + max64},
		{api.VAET, d, ref7 + ten + five + one + zero + min64 + max64},
		{api.EAVT, ends, entEnd + zero + "03 61 00 ff 00 01" + txEnd + one + minus1 + zero},
		{api.AEVT, ends, zero + entEnd + "03 61 00 ff 00 01" + txEnd + one + minus1 + zero},
		{api.AVET, ends, zero + "03 61 00 ff 00 01" + entEnd + txEnd + one + minus1 + zero},
		{api.VAET, turned(func(d *api.Datom) { d.V, d.Add = ref(api.MaxEntity-1), false }), "05" + entEnd + ten + five + one + one + min64 + max64},
	}
}

func TestKey(t *testing.T) {
	for _, x := range keyed() {
		if got, e := Key(x.order, x.d); e != api.OK || !bytes.Equal(got, fromHex(t, x.key)) {
			t.Errorf("Key(%d, %v) = % x, %v, want %s", x.order, x.d, got, e, x.key)
		}
	}
	for _, o := range orders {
		for _, d := range mayNot() {
			if got, e := Key(o, d); e != api.ErrDatom || len(got) != 0 {
				t.Errorf("Key(%d, %v) = % x, %v, want nothing and ErrDatom", o, d, got, e)
			}
		}
	}
	for _, d := range may() {
		if got, e := Key(api.VAET, d); (e == api.OK) != (d.V.Kind == api.KRef) || e != api.OK && (e != api.ErrDatom || len(got) != 0) {
			t.Errorf("Key(VAET, %v) = % x, %v", d, got, e)
		}
	}
}

func TestKeyExampleOfNoReference(t *testing.T) {
	d := turned(func(d *api.Datom) { d.V = api.Value{Kind: api.KInt, N: 7} })
	if got, e := Key(api.VAET, d); e != api.ErrDatom || len(got) != 0 {
		t.Errorf("Key(VAET, %v) = % x, %v, want nothing and ErrDatom", d, got, e)
	}
}

// That an order is none is said first, whatever else is wrong.
func TestNoOrder(t *testing.T) {
	d := example()
	key, _ := Key(api.EAVT, d)
	for _, o := range noOrders {
		for _, d := range []api.Datom{d, {}} {
			if got, e := Key(o, d); e != api.ErrArg || len(got) != 0 {
				t.Errorf("Key(%d, %v) = % x, %v, want nothing and ErrArg", o, d, got, e)
			}
		}
		for _, b := range [][]byte{nil, key, {1}} {
			if got, e := Read(o, b); e != api.ErrArg || got != (api.Datom{}) {
				t.Errorf("Read(%d, % x) = %v, %v, want nothing and ErrArg", o, b, got, e)
			}
		}
		for _, l := range [][]api.Part{nil, {{N: 5}}, {{Value: true, V: ref(7)}}, {{Value: true}}} {
			if got, e := Prefix(o, l); e != api.ErrArg || len(got) != 0 {
				t.Errorf("Prefix(%d, %v) = % x, %v, want nothing and ErrArg", o, l, got, e)
			}
			if Begins(o, l, d) {
				t.Errorf("Begins(%d, %v, %v)", o, l, d)
			}
		}
	}
}

func TestRead(t *testing.T) {
	for _, x := range keyed() {
		if got, e := Read(x.order, fromHex(t, x.key)); e != api.OK || got != x.d {
			t.Errorf("Read(%d, %s) = %v, %v, want %v", x.order, x.key, got, e, x.d)
		}
	}
}

func TestReadOfNoKeys(t *testing.T) {
	whole := min64 + max64
	for _, x := range []struct {
		order int
		b     string
	}{
		{api.EAVT, ""}, {api.VAET, ""}, {api.EAVT, "05"},
		// Entities and attributes that may not be.
		{api.EAVT, minus1 + ten + ref7 + one + zero + whole}, {api.EAVT, noEnt + ten + ref7 + one + zero + whole}, {api.EAVT, min64 + ten + ref7 + one + zero + whole},
		{api.EAVT, five + minus1 + ref7 + one + zero + whole}, {api.EAVT, five + noEnt + ref7 + one + zero + whole}, {api.AEVT, max64 + five + ref7 + one + zero + whole},
		{api.AVET, noEnt + ref7 + five + one + zero + whole}, {api.AVET, ten + ref7 + noEnt + one + zero + whole}, {api.VAET, ref7 + noEnt + five + one + zero + whole}, {api.VAET, ref7 + ten + minus1 + one + zero + whole},
		// Values that may not be, or that are none.
		{api.EAVT, five + ten + "05" + noEnt + one + zero + whole}, {api.EAVT, five + ten + "05" + minus1 + one + zero + whole}, {api.EAVT, five + ten + "02 02" + one + zero + whole}, {api.EAVT, five + ten + "08 00 01" + one + zero + whole}, {api.EAVT, five + ten + "03 61 00 02" + one + zero + whole}, {api.EAVT, five + ten + "07 41 00 01" + one + zero + whole},
		// Values that are no references.
		{api.VAET, "01" + five + ten + five + one + zero + whole}, {api.VAET, "02 01" + ten + five + one + zero + whole}, {api.VAET, "03 61 00 01" + ten + five + one + zero + whole}, {api.VAET, "06" + five + ten + five + one + zero + whole},
		// Transactions that may not be.
		{api.EAVT, five + ten + ref7 + zero + zero + whole}, {api.AEVT, five + ten + ref7 + minus1 + zero + whole}, {api.AVET, ten + ref7 + five + txOver + zero + whole}, {api.VAET, ref7 + ten + five + max64 + zero + whole},
		// What is neither Add nor not Add.
		{api.EAVT, five + ten + ref7 + one + two + whole}, {api.EAVT, five + ten + ref7 + one + minus1 + whole}, {api.VAET, ref7 + ten + five + one + min64 + whole}, {api.AVET, ten + ref7 + five + one + max64 + whole},
		// Spans that may not be.
		{api.EAVT, five + ten + ref7 + one + zero + max64 + min64}, {api.EAVT, five + ten + ref7 + one + zero + five + five}, {api.AEVT, five + ten + ref7 + one + zero + min64 + min64}, {api.AVET, ten + ref7 + five + one + one + max64 + max64}, {api.VAET, ref7 + ten + five + one + one + two + one},
		// Parts that are missing, or too many.
		{api.EAVT, five + ten + ref7 + one}, {api.EAVT, five + ten + ref7 + one + zero + min64}, {api.EAVT, five + ten + ref7 + one + whole}, {api.EAVT, five + ten + ref7 + one + zero + whole + zero}, {api.EAVT, five + ten + one + zero + whole},
		// Keys of another order.
		{api.EAVT, ten + ref7 + five + one + zero + whole}, {api.EAVT, ref7 + ten + five + one + zero + whole}, {api.AVET, five + ten + ref7 + one + zero + whole}, {api.VAET, five + ten + ref7 + one + zero + whole}, {api.VAET, ten + ref7 + five + one + zero + whole},
	} {
		if got, e := Read(x.order, fromHex(t, x.b)); e != api.ErrDatom || got != (api.Datom{}) {
			t.Errorf("Read(%d, %s) = %v, %v, want nothing and ErrDatom", x.order, x.b, got, e)
		}
	}
}

// Read of a key is its datom; less than the key, or more, is none.
func TestReadOfKey(t *testing.T) {
	for _, o := range orders {
		for _, d := range may() {
			key, e := Key(o, d)
			if e != api.OK {
				continue
			}
			if got, e := Read(o, key); e != api.OK || got != d {
				t.Fatalf("Read of the key of %v in order %d = %v, %v", d, o, got, e)
			}
			for n := range key {
				if got, e := Read(o, key[:n]); e != api.ErrDatom || got != (api.Datom{}) {
					t.Fatalf("Read of the first %d bytes of the key of %v in order %d = %v, %v", n, d, o, got, e)
				}
			}
			for _, c := range []byte{0, 1, 0x80, 0xff} {
				if got, e := Read(o, append(slices.Clone(key), c)); e != api.ErrDatom || got != (api.Datom{}) {
					t.Fatalf("Read of the key of %v in order %d and %02x = %v, %v", d, o, c, got, e)
				}
			}
		}
	}
}

// What parts' bytes are read as, in each order, has those bytes as its key; and they are read, if some datom has them.
func TestReadOfAnyParts(t *testing.T) {
	r := rand.New(rand.NewSource(2))
	ns := []int64{math.MinInt64, -1, 0, 1, 2, 5, 1, 2, 5, api.MaxTx, api.MaxTx + 1, api.MaxEntity - 1, api.MaxEntity, math.MaxInt64}
	vs := []api.Value{ref(0), ref(7), ref(api.MaxEntity - 1), text("a"), {Kind: api.KInt, N: 5}, {Kind: api.KBool, N: 1}}
	read := map[int]int{}
	for range 40000 {
		o := orders[r.Intn(len(orders))]
		var l []api.Part
		for range 7 {
			l = append(l, api.Part{N: ns[r.Intn(len(ns))]})
		}
		v := vs[r.Intn(len(vs))]
		d := api.Datom{V: v, T: l[3].N, Add: l[4].N == 0, From: l[5].N, To: l[6].N}
		l[map[int]int{api.EAVT: 2, api.AEVT: 2, api.AVET: 1, api.VAET: 0}[o]] = api.Part{Value: true, V: v}
		d.E = l[map[int]int{api.EAVT: 0, api.AEVT: 1, api.AVET: 2, api.VAET: 2}[o]].N
		d.A = l[map[int]int{api.EAVT: 1, api.AEVT: 0, api.AVET: 0, api.VAET: 1}[o]].N
		may := Check(d) == api.OK && (l[4].N == 0 || l[4].N == 1) && (o != api.VAET || v.Kind == api.KRef)
		b, _ := order.Key(l)
		got, e := Read(o, b)
		if !may {
			if e != api.ErrDatom || got != (api.Datom{}) {
				t.Fatalf("Read(%d, % x) = %v, %v, want nothing and ErrDatom", o, b, got, e)
			}
			continue
		}
		read[o]++
		if back, e2 := Key(o, got); e != api.OK || got != d || e2 != api.OK || !bytes.Equal(back, b) {
			t.Fatalf("Read(%d, % x) = %v, %v, whose key is % x", o, b, got, e, back)
		}
	}
	for _, o := range orders {
		if read[o] < 10 {
			t.Errorf("in order %d just %d datoms were read", o, read[o])
		}
	}
}

// A key with a byte turned is none, or that of another datom.
func TestReadOfTurnedKeys(t *testing.T) {
	for _, o := range orders {
		for _, d := range []api.Datom{example(), turned(func(d *api.Datom) { d.V, d.Add, d.From = text("a\x00b"), false, -3 })} {
			key, e := Key(o, d)
			if e != api.OK {
				continue
			}
			for i := range key {
				for c := 1; c < 256; c++ {
					b := slices.Clone(key)
					b[i] ^= byte(c)
					got, e := Read(o, b)
					if e != api.OK {
						if e != api.ErrDatom || got != (api.Datom{}) {
							t.Fatalf("Read(%d, % x) = %v, %v", o, b, got, e)
						}
						continue
					}
					if back, e := Key(o, got); e != api.OK || !bytes.Equal(back, b) || got == d {
						t.Fatalf("Read(%d, % x) = %v, whose key is % x, %v", o, b, got, back, e)
					}
				}
			}
		}
	}
}

// Keys of two datoms stand, byte by byte, as the datoms do.
func TestKeysStandAsDatoms(t *testing.T) {
	l := append(may(), drawn(rand.New(rand.NewSource(3)), 600)...)
	for _, o := range orders {
		sorted := Sorted(o, l)
		var last []byte
		for i, d := range sorted {
			key, e := Key(o, d)
			if e != api.OK || bytes.Compare(last, key) >= 0 {
				t.Fatalf("in order %d the key % x, %v of %v stands behind % x of the datom ahead of it", o, key, e, d, last)
			}
			if i > 0 && Compare(o, sorted[i-1], d) != -1 {
				t.Fatalf("in order %d %v is not ahead of %v", o, sorted[i-1], d)
			}
			last = key
		}
		for _, a := range may() {
			for _, b := range may() {
				ka, ea := Key(o, a)
				kb, eb := Key(o, b)
				if ea == api.OK && eb == api.OK && bytes.Compare(ka, kb) != Compare(o, a, b) {
					t.Fatalf("in order %d keys % x and % x of %v and %v, which stand as %d", o, ka, kb, a, b, Compare(o, a, b))
				}
			}
		}
	}
}

// spoil writes to all of an answer, and to the room behind it.
func spoil(b []byte) {
	b = b[:cap(b)]
	for i := range b {
		b[i] ^= 0x55
	}
}

func TestKeysAreNewMemory(t *testing.T) {
	d := turned(func(d *api.Datom) { d.V = text("abc") })
	a, _ := Key(api.EAVT, d)
	b, _ := Key(api.EAVT, d)
	kept := slices.Clone(b)
	spoil(a)
	if !bytes.Equal(b, kept) {
		t.Error("two answers of Key share memory")
	}
	room := append(slices.Clone(b), 1, 2, 3)
	keptRoom := slices.Clone(room)
	got, e := Read(api.EAVT, room[:len(b)])
	if e != api.OK || !bytes.Equal(room, keptRoom) {
		t.Fatalf("Read = %v, or it turned what was handed in", e)
	}
	spoil(room)
	if got != d {
		t.Errorf("writing to the bytes turned what was read of them to %v", got)
	}
}

// What tells parts stops when no more are wanted, and tells them all when asked again.
func TestToldStops(t *testing.T) {
	at, _ := placesOf(api.AVET)
	seq := at.told(example())
	want := []api.Part{{N: 10}, {Value: true, V: ref(7)}, {N: 5}, {N: 1}, {N: 0}, {N: api.MinTime}, {N: api.MaxTime}}
	for most := 1; most <= len(want); most++ {
		var got []api.Part
		for place, p := range seq {
			if place != len(got) {
				t.Fatalf("part %d at place %d", len(got), place)
			}
			got = append(got, p)
			if len(got) == most {
				break
			}
		}
		if !slices.Equal(got, want[:most]) {
			t.Errorf("the first %d parts: %v", most, got)
		}
	}
}
