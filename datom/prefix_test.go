package datom

import (
	"bytes"
	"math"
	"math/rand"
	"slices"
	"testing"

	"daybook/api"
)

func number(n int64) api.Part { return api.Part{N: n} }

func of(v api.Value) api.Part { return api.Part{Value: true, V: v} }

// first are the first parts of a datom in an order, as the chapter's table has them.
func first(order int, d api.Datom) []api.Part {
	switch order {
	case api.EAVT:
		return []api.Part{number(d.E), number(d.A), of(d.V), number(d.T)}
	case api.AEVT:
		return []api.Part{number(d.A), number(d.E), of(d.V), number(d.T)}
	case api.AVET:
		return []api.Part{number(d.A), of(d.V), number(d.E), number(d.T)}
	}
	return []api.Part{of(d.V), number(d.A), number(d.E), number(d.T)}
}

func TestPrefix(t *testing.T) {
	bad := api.Value{Kind: 9, S: "a"}
	for _, x := range []struct {
		order int
		l     []api.Part
		want  string
	}{
		{api.EAVT, nil, ""}, {api.AEVT, []api.Part{}, ""}, {api.AVET, nil, ""}, {api.VAET, nil, ""},
		{api.EAVT, []api.Part{number(5)}, five},
		{api.EAVT, []api.Part{number(5), number(10)}, five + ten},
		{api.EAVT, []api.Part{number(5), number(10), of(ref(7))}, five + ten + ref7},
		{api.EAVT, []api.Part{number(5), number(10), of(ref(7)), number(1)}, five + ten + ref7 + one},
		{api.AEVT, []api.Part{number(10), number(5), of(text("a\x00")), number(1)}, ten + five + "03 61 00 ff 00 01" + one},
		{api.AVET, []api.Part{number(10), of(ref(7))}, ten + ref7},
		{api.AVET, []api.Part{number(10), of(ref(7)), number(5), number(1)}, ten + ref7 + five + one},
		{api.VAET, []api.Part{of(ref(7))}, ref7},
		{api.VAET, []api.Part{of(ref(7)), number(10), number(5), number(1)}, ref7 + ten + five + one},
		// A prefix asks of its parts no more than their kinds: no datom need begin with it.
		{api.VAET, []api.Part{of(text("a"))}, "03 61 00 01"},
		{api.EAVT, []api.Part{number(-1), number(math.MaxInt64)}, minus1 + max64}, {api.EAVT, []api.Part{number(math.MinInt64)}, min64},
		{api.AEVT, []api.Part{number(0), number(0), of(ref(7)), number(0)}, zero + zero + ref7 + zero},
		// Of a number N alone counts, of a value V.
		{api.EAVT, []api.Part{{N: 5, V: bad}}, five}, {api.VAET, []api.Part{{Value: true, N: -3, V: ref(7)}, {N: 10, V: bad}}, ref7 + ten},
	} {
		if got, e := Prefix(x.order, x.l); e != api.OK || !bytes.Equal(got, fromHex(t, x.want)) {
			t.Errorf("Prefix(%d, %v) = % x, %v, want %s", x.order, x.l, got, e, x.want)
		}
	}
}

func TestPrefixOfWrongParts(t *testing.T) {
	v, n, bad := of(ref(7)), number(5), of(api.Value{Kind: 9})
	for _, x := range []struct {
		order int
		l     []api.Part
		want  api.Errno
	}{
		// A value where a number stands, and a number where a value does.
		{api.EAVT, []api.Part{v}, api.ErrArg}, {api.EAVT, []api.Part{n, v}, api.ErrArg}, {api.EAVT, []api.Part{n, n, n}, api.ErrArg}, {api.EAVT, []api.Part{n, n, v, v}, api.ErrArg},
		{api.AEVT, []api.Part{v}, api.ErrArg}, {api.AEVT, []api.Part{n, v}, api.ErrArg}, {api.AEVT, []api.Part{n, n, n}, api.ErrArg}, {api.AEVT, []api.Part{n, n, v, v}, api.ErrArg},
		{api.AVET, []api.Part{v}, api.ErrArg}, {api.AVET, []api.Part{n, n}, api.ErrArg}, {api.AVET, []api.Part{n, v, v}, api.ErrArg}, {api.AVET, []api.Part{n, v, n, v}, api.ErrArg},
		{api.VAET, []api.Part{n}, api.ErrArg}, {api.VAET, []api.Part{v, v}, api.ErrArg}, {api.VAET, []api.Part{v, n, v}, api.ErrArg}, {api.VAET, []api.Part{v, n, n, v}, api.ErrArg},
		{api.EAVT, []api.Part{v, n, v}, api.ErrArg}, {api.AVET, []api.Part{n, n, v, n}, api.ErrArg},
		// Too many.
		{api.EAVT, []api.Part{n, n, v, n, n}, api.ErrArg}, {api.AEVT, []api.Part{n, n, v, n, n}, api.ErrArg}, {api.AVET, []api.Part{n, v, n, n, n}, api.ErrArg}, {api.VAET, []api.Part{v, n, n, n, n}, api.ErrArg},
		{api.EAVT, []api.Part{n, n, v, n, v}, api.ErrArg}, {api.EAVT, make([]api.Part, 1000), api.ErrArg}, {api.VAET, []api.Part{v, n, n, n, n, n, n}, api.ErrArg},
		// Values that may not be.
		{api.EAVT, []api.Part{n, n, bad}, api.ErrKind}, {api.EAVT, []api.Part{n, n, bad, n}, api.ErrKind}, {api.AEVT, []api.Part{n, n, bad}, api.ErrKind}, {api.AVET, []api.Part{n, bad}, api.ErrKind}, {api.AVET, []api.Part{n, bad, n, n}, api.ErrKind}, {api.VAET, []api.Part{bad}, api.ErrKind},
		{api.VAET, []api.Part{of(ref(-1))}, api.ErrKind}, {api.VAET, []api.Part{of(ref(api.MaxEntity)), n}, api.ErrKind}, {api.AVET, []api.Part{n, of(api.Value{})}, api.ErrKind}, {api.VAET, []api.Part{{Value: true, N: 5}}, api.ErrKind},
		// Of both faults the first one that the promise names.
		{api.EAVT, []api.Part{bad}, api.ErrArg}, {api.EAVT, []api.Part{n, n, bad, bad}, api.ErrArg}, {api.VAET, []api.Part{bad, v}, api.ErrArg}, {api.AVET, []api.Part{n, bad, n, n, n}, api.ErrArg}, {api.AVET, []api.Part{n, bad, bad}, api.ErrArg},
	} {
		if got, e := Prefix(x.order, x.l); e != x.want || len(got) != 0 {
			t.Errorf("Prefix(%d, %v) = % x, %v, want nothing and %v", x.order, x.l, got, e, x.want)
		}
		for _, d := range append(may(), mayNot()...) {
			if Begins(x.order, x.l, d) {
				t.Errorf("Begins(%d, %v, %v), but that is no prefix", x.order, x.l, d)
			}
		}
	}
}

func TestBegins(t *testing.T) {
	d := example()
	plain := turned(func(d *api.Datom) { d.V = text("a") })
	junk := api.Value{Kind: 9, S: "a"}
	for _, x := range []struct {
		order int
		l     []api.Part
		d     api.Datom
		want  bool
	}{
		{api.AEVT, []api.Part{number(10), number(5)}, d, true}, {api.EAVT, []api.Part{number(10)}, d, false},
		{api.EAVT, nil, d, true}, {api.VAET, []api.Part{}, d, true}, {api.AVET, nil, plain, true},
		// VAET has references alone, however few parts are asked for.
		{api.VAET, nil, plain, false}, {api.VAET, []api.Part{of(text("a"))}, plain, false}, {api.VAET, []api.Part{of(ref(7))}, plain, false},
		// A value is more than its number, and than its beginning.
		{api.AVET, []api.Part{number(10), of(api.Value{Kind: api.KInt, N: 7})}, d, false}, {api.AVET, []api.Part{number(10), of(text(""))}, plain, false}, {api.AVET, []api.Part{number(10), of(text("ab"))}, plain, false}, {api.AVET, []api.Part{number(10), of(text("a"))}, plain, true},
		// Of a number N alone counts, of a value V: as in the bytes.
		{api.EAVT, []api.Part{{N: 5, V: junk}}, d, true}, {api.EAVT, []api.Part{{N: 6, V: junk}}, d, false}, {api.VAET, []api.Part{{Value: true, N: 9, V: ref(7)}}, d, true}, {api.VAET, []api.Part{{Value: true, N: 7, V: ref(9)}}, d, false},
		// Whether the datom may be is not asked.
		{api.EAVT, []api.Part{number(-1)}, turned(func(d *api.Datom) { d.E = -1 }), true}, {api.EAVT, nil, api.Datom{}, true}, {api.AVET, []api.Part{number(10), of(ref(7)), number(5), number(0)}, turned(func(d *api.Datom) { d.T = 0 }), true},
		{api.VAET, nil, api.Datom{}, false}, {api.VAET, nil, turned(func(d *api.Datom) { d.From, d.To = 1, 1 }), true}, {api.VAET, []api.Part{of(ref(7)), number(10)}, turned(func(d *api.Datom) { d.E = -1 }), true},
		// A value that may not be is no prefix's, so nothing begins with it.
		{api.VAET, []api.Part{of(ref(-1))}, turned(func(d *api.Datom) { d.V.N = -1 }), false}, {api.AVET, []api.Part{number(10), of(junk)}, turned(func(d *api.Datom) { d.V = junk }), false}, {api.AVET, []api.Part{number(10)}, turned(func(d *api.Datom) { d.V = junk }), true},
	} {
		if got := Begins(x.order, x.l, x.d); got != x.want {
			t.Errorf("Begins(%d, %v, %v) = %v", x.order, x.l, x.d, got)
		}
	}
}

// Each datom begins with so many of its first parts, and with no others.
func TestBeginsWithFirstParts(t *testing.T) {
	d := example()
	for _, o := range orders {
		parts := first(o, d)
		for n := range len(parts) + 1 {
			if !Begins(o, parts[:n], d) {
				t.Errorf("Begins(%d, %v, %v) = false", o, parts[:n], d)
			}
			for i := range n {
				other := slices.Clone(parts[:n])
				if other[i].Value {
					other[i].V.N++
				} else {
					other[i].N++
				}
				if Begins(o, other, d) {
					t.Errorf("Begins(%d, %v, %v) = true", o, other, d)
				}
			}
		}
	}
}

// A datom's key begins with a prefix's bytes just if Begins.
func TestKeysBeginAsDatomsDo(t *testing.T) {
	l := append(may(), drawn(rand.New(rand.NewSource(4)), 80)...)
	for _, o := range orders {
		yes, no := 0, 0
		for _, from := range l {
			for n := range 5 {
				parts := first(o, from)[:n]
				prefix, e := Prefix(o, parts)
				if e != api.OK {
					t.Fatalf("Prefix(%d, %v): %v", o, parts, e)
				}
				for _, d := range l {
					key, e := Key(o, d)
					begins := e == api.OK && bytes.HasPrefix(key, prefix)
					if Begins(o, parts, d) != begins {
						t.Fatalf("Begins(%d, %v, %v) = %v, key % x, prefix % x", o, parts, d, !begins, key, prefix)
					}
					if begins {
						yes++
					} else {
						no++
					}
				}
			}
		}
		if yes < 1000 || no < 1000 {
			t.Errorf("in order %d %d begin, %d do not", o, yes, no)
		}
	}
}

func TestPrefixesAreNewMemory(t *testing.T) {
	room := []api.Part{number(5), number(10), of(text("a")), number(1), number(2)}
	kept := slices.Clone(room)
	a, _ := Prefix(api.EAVT, room[:3])
	b, _ := Prefix(api.EAVT, room[:3])
	keptBytes := slices.Clone(b)
	spoil(a)
	if !bytes.Equal(b, keptBytes) {
		t.Error("two answers of Prefix share memory")
	}
	Begins(api.EAVT, room[:3], example())
	if !slices.Equal(room, kept) {
		t.Error("what was handed in was turned")
	}
}
