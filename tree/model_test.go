package tree

import (
	"bytes"
	"math"
	"slices"
	"strings"
	"testing"

	"daybook/api"
)

// model is what a tree has, as keys with values; each question goes through all of it, by the chapter's words.
type model map[string]string

func (m model) with(k, v string) model {
	n := model{k: v}
	for l, w := range m {
		if l != k {
			n[l] = w
		}
	}
	return n
}

func (m model) without(k string) model {
	n := model{}
	for l, w := range m {
		if l != k {
			n[l] = w
		}
	}
	return n
}

// pairs are all of it, in the order of bytes.
func (m model) pairs() []Pair {
	var l []Pair
	for k, v := range m {
		l = append(l, Pair{Key: []byte(k), Value: []byte(v)})
	}
	slices.SortFunc(l, func(p, q Pair) int { return compare(p.Key, q.Key) })
	return l
}

// compare says how keys stand: the first byte that is unlike decides, and a beginning stands ahead.
func compare(a, b []byte) int {
	for i := range min(len(a), len(b)) {
		if a[i] != b[i] {
			return int(a[i]) - int(b[i])
		}
	}
	return len(a) - len(b)
}

func same(p, q Pair) bool { return bytes.Equal(p.Key, q.Key) && bytes.Equal(p.Value, q.Value) }

// told is a text of pairs, for what a test tells.
func told(l []Pair) string {
	var b strings.Builder
	for _, p := range l {
		b.WriteString(quoted(p.Key) + ":" + quoted(p.Value) + " ")
	}
	return b.String()
}

func quoted(b []byte) string {
	const digits = "0123456789abcdef"
	var l []byte
	for _, c := range b {
		l = append(l, digits[c>>4], digits[c&15])
	}
	return "<" + string(l) + ">"
}

// keys are all of at most so many bytes out of some, that of no byte too.
func keys(of string, most int) []string {
	l := []string{""}
	if most > 0 {
		for _, c := range []byte(of) {
			for _, rest := range keys(of, most-1) {
				l = append(l, string([]byte{c})+rest)
			}
		}
	}
	return l
}

// holds asks all of a tree, of each of some keys, and of all places.
func (m model) holds(t *testing.T, x *Tree, asked []string) {
	t.Helper()
	l := m.pairs()
	if x.Len() != len(l) {
		t.Fatalf("Len: %d, want %d", x.Len(), len(l))
	}
	if got := x.Range(nil, nil, math.MaxInt); !slices.EqualFunc(got, l, same) {
		t.Fatalf("all: %s, want %s", told(got), told(l))
	}
	for i := -2; i < len(l)+2; i++ {
		m.holdsAt(t, x, l, i)
	}
	m.holdsAt(t, x, l, math.MinInt)
	m.holdsAt(t, x, l, math.MaxInt)
	for _, k := range asked {
		m.holdsKey(t, x, l, k)
	}
}

func (m model) holdsAt(t *testing.T, x *Tree, l []Pair, i int) {
	t.Helper()
	var want Pair
	there := i >= 0 && i < len(l)
	if there {
		want = l[i]
	}
	got, ok := x.At(i)
	if ok != there || !same(got, want) {
		t.Fatalf("At(%d) = %s, %v, want %s", i, told([]Pair{got}), ok, told([]Pair{want}))
	}
	if ok && x.Rank(got.Key) != i {
		t.Fatalf("Rank of At(%d) = %d", i, x.Rank(got.Key))
	}
}

func (m model) holdsKey(t *testing.T, x *Tree, l []Pair, k string) {
	t.Helper()
	key := []byte(k)
	rank, from, back := 0, []Pair(nil), []Pair(nil)
	for _, p := range l {
		if compare(p.Key, key) < 0 {
			rank++
			back = []Pair{p}
		} else if from == nil {
			from = []Pair{p}
		}
	}
	if got := x.Rank(key); got != rank {
		t.Fatalf("Rank(%s) = %d, want %d", quoted(key), got, rank)
	}
	for _, a := range []struct {
		name string
		ask  func([]byte) (Pair, bool)
		want []Pair
	}{{"Seek", x.Seek, from}, {"Back", x.Back, back}} {
		got, ok := a.ask(key)
		if ok != (len(a.want) > 0) || ok && !same(got, a.want[0]) || !ok && len(got.Key)+len(got.Value) > 0 {
			t.Fatalf("%s(%s) = %s, %v, want %s", a.name, quoted(key), told([]Pair{got}), ok, told(a.want))
		}
	}
	want, there := m[k]
	got, ok := x.Get(key)
	if ok != there || string(got) != want {
		t.Fatalf("Get(%s) = %s, %v, want %s, %v", quoted(key), quoted(got), ok, want, there)
	}
	if there {
		if p, ok := x.At(x.Rank(key)); !ok || string(p.Key) != k {
			t.Fatalf("At of Rank(%s) = %s, %v", quoted(key), told([]Pair{p}), ok)
		}
	}
}

func (m model) ranged(from, to string, most int) []Pair {
	var l []Pair
	for _, p := range m.pairs() {
		if compare(p.Key, []byte(from)) >= 0 && (to == "" || compare(p.Key, []byte(to)) < 0) && len(l) < most {
			l = append(l, p)
		}
	}
	return l
}

func (m model) diff(n model) []Pair {
	var l []Pair
	for _, p := range m.pairs() {
		if v, ok := n[string(p.Key)]; !ok || v != string(p.Value) {
			l = append(l, p)
		}
	}
	return l
}

// put asks that a Put goes.
func put(t *testing.T, x *Tree, k, v string) *Tree {
	t.Helper()
	y, e := x.Put([]byte(k), []byte(v))
	if e != api.OK || y == nil {
		t.Fatalf("Put(%s): %v, %v", quoted([]byte(k)), y, e)
	}
	return y
}

// of is the tree of keys, each with the value behind it.
func of(t *testing.T, l ...string) *Tree {
	t.Helper()
	var x *Tree
	for i := 0; i < len(l); i += 2 {
		x = put(t, x, l[i], l[i+1])
	}
	return x
}
