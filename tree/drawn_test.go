package tree

import (
	"math"
	"math/rand"
	"slices"
	"sync"
	"testing"
)

// version is a tree, with what it must be.
type version struct {
	x *Tree
	m model
}

// drawn are versions, each made of one that was there, mostly of the last one.
func drawn(t *testing.T, r *rand.Rand, of []string, steps int) []version {
	t.Helper()
	all := []version{{nil, model{}}}
	for range steps {
		v := all[len(all)-1]
		if r.Intn(8) == 0 {
			v = all[r.Intn(len(all))]
		}
		k := of[r.Intn(len(of))]
		if r.Intn(5) < 2 {
			all = append(all, version{v.x.Cut([]byte(k)), v.m.without(k)})
			continue
		}
		w := []string{"", "1", "2", "\x00"}[r.Intn(4)]
		all = append(all, version{put(t, v.x, k, w), v.m.with(k, w)})
	}
	return all
}

// All versions answer as the model, once all of them are made; each of them against some others.
func TestDrawnVersions(t *testing.T) {
	r := rand.New(rand.NewSource(1))
	for _, of := range [][]string{keys("a", 1), keys("ab", 2), keys("\x00\x01\xff", 2), keys("\x00a\x7f\x80\xff", 3)} {
		for range 12 {
			all := drawn(t, r, of, 150)
			for _, v := range all {
				wellMade(t, v.x.top())
				v.m.holds(t, v.x, slices.Concat(of[:min(len(of), 40)], []string{"a\x00", "b", "\xff\xff\xff\xff"}))
				w := all[r.Intn(len(all))]
				if got, want := v.x.Diff(w.x), v.m.diff(w.m); !slices.EqualFunc(got, want, same) {
					t.Fatalf("Diff of %s and %s = %s, want %s", told(v.m.pairs()), told(w.m.pairs()), told(got), told(want))
				}
				if l := v.x.Diff(v.x); len(l) > 0 {
					t.Fatalf("Diff of a tree and itself: %s", told(l))
				}
				from, to, most := of[r.Intn(len(of))], of[r.Intn(len(of))], r.Intn(12)-1
				if got, want := v.x.Range([]byte(from), []byte(to), most), v.m.ranged(from, to, most); !slices.EqualFunc(got, want, same) {
					t.Fatalf("Range(%s, %s, %d) = %s, want %s", quoted([]byte(from)), quoted([]byte(to)), most, told(got), told(want))
				}
			}
		}
	}
}

// Whatever the order in which the same keys are put, and whatever was put and cut between, all answers are the same.
func TestOrderOfPutsMakesNoDifference(t *testing.T) {
	r := rand.New(rand.NewSource(2))
	all := keys("\x00ab\xff", 3)
	m := model{}
	for i, k := range all {
		if i%2 == 0 {
			m[k] = k + "!"
		}
	}
	first := (*Tree)(nil)
	for range 30 {
		var x *Tree
		for _, i := range r.Perm(len(all)) {
			x = put(t, x, all[i], all[i]+"!")
		}
		for _, i := range r.Perm(len(all)) {
			if i%2 == 1 {
				x = x.Cut([]byte(all[i]))
			}
		}
		m.holds(t, x, all)
		if first == nil {
			first = x
		}
		if len(x.Diff(first)) > 0 || len(first.Diff(x)) > 0 {
			t.Fatal("trees of the same pairs are unlike")
		}
	}
}

// Behind a Put, Get tells it, and all other keys as before; behind Put and Cut of a key that was not there, all is as before.
func TestPutAndCut(t *testing.T) {
	r := rand.New(rand.NewSource(3))
	asked := keys("\x00a\xff", 3)
	for _, v := range drawn(t, r, keys("\x00a\xff", 2), 60) {
		for _, k := range asked {
			y := put(t, v.x, k, "new")
			v.m.with(k, "new").holds(t, y, asked[:20])
			if _, there := v.m[k]; !there {
				z := y.Cut([]byte(k))
				v.m.holds(t, z, asked[:20])
				if len(z.Diff(v.x)) > 0 || len(v.x.Diff(z)) > 0 {
					t.Fatal("Put and Cut of a key left something")
				}
			}
		}
		v.m.holds(t, v.x, asked)
	}
}

// One tree may be asked, and made others of, by many at once.
func TestManyAtOnce(t *testing.T) {
	x, m := (*Tree)(nil), model{}
	for _, k := range keys("abc", 3) {
		x, m = put(t, x, k, k), m.with(k, k)
	}
	var all sync.WaitGroup
	for i := range 8 {
		all.Add(1)
		go func() {
			defer all.Done()
			y := x
			for _, k := range keys("abc", 3)[i:] {
				y = y.Cut([]byte(k))
				y, _ = y.Put([]byte(k+"z"), []byte{byte(i)})
			}
			y.Diff(x)
		}()
	}
	all.Wait()
	m.holds(t, x, keys("abc", 3))
}

// wellMade asks that the nodes beside a node stand as they must, its sizes are right, and no side is too heavy; it tells how many there are.
func wellMade(t *testing.T, n *node) int {
	t.Helper()
	if n == nil {
		return 0
	}
	l, r := wellMade(t, n.left), wellMade(t, n.right)
	if n.size != l+1+r {
		t.Fatalf("a node of %d says that it has %d", l+1+r, n.size)
	}
	if l+1 > heavy*(r+1) || r+1 > heavy*(l+1) {
		t.Fatalf("a node has %d on its left, %d on its right", l, r)
	}
	if l > 0 && compare(n.left.pair.Key, n.pair.Key) >= 0 || r > 0 && compare(n.right.pair.Key, n.pair.Key) <= 0 {
		t.Fatalf("keys beside %s do not rise", quoted(n.pair.Key))
	}
	return n.size
}

// Keys that rise, fall, and come from both ends, put and then cut, leave no tree that is a list.
func TestTreesStayEven(t *testing.T) {
	const many = 3000
	orders := [][]int{nil, nil, nil, rand.New(rand.NewSource(4)).Perm(many)}
	for i := range many {
		orders[0] = append(orders[0], i)
		orders[1] = append(orders[1], many-1-i)
		orders[2] = append(orders[2], []int{i / 2, many - 1 - i/2}[i%2])
	}
	for _, puts := range orders {
		var x *Tree
		for i, k := range puts {
			x = put(t, x, string(numbered(k)), "")
			if i%97 == 0 {
				wellMade(t, x.top())
			}
		}
		for _, cuts := range orders {
			y := x
			for i, k := range cuts {
				y = y.Cut(numbered(k))
				if i%97 == 0 || i > many-50 {
					if n := wellMade(t, y.top()); n != many-1-i {
						t.Fatalf("%d are left, want %d", n, many-1-i)
					}
				}
			}
		}
	}
}

// Nor do puts and cuts by turns, of one half of the keys more than of the other.
func TestTreesStayEvenByTurns(t *testing.T) {
	r := rand.New(rand.NewSource(5))
	for _, many := range []int{5, 9, 17, 60} {
		var x *Tree
		for i := range 20000 {
			k := r.Intn(many)
			if turn := i / (4 * many); k < many/2 == (turn%2 == 0) {
				x = put(t, x, string(numbered(k)), "")
			} else {
				x = x.Cut(numbered(k))
			}
			wellMade(t, x.top())
		}
	}
}

// All short rows of puts and cuts.
func TestAllShortRows(t *testing.T) {
	names := []string{"", "a", "a\x00", "b"}
	var goOn func(v version, steps int)
	goOn = func(v version, steps int) {
		wellMade(t, v.x.top())
		v.m.holds(t, v.x, names)
		if steps == 0 {
			return
		}
		for i, k := range names {
			w := string(rune('0' + (i+steps)%3))
			goOn(version{put(t, v.x, k, w), v.m.with(k, w)}, steps-1)
			goOn(version{v.x.Cut([]byte(k)), v.m.without(k)}, steps-1)
		}
		v.m.holds(t, v.x, names)
	}
	goOn(version{nil, model{}}, 4)
	if l := of(t, "a", "").Range([]byte("a"), []byte("a\x00"), math.MaxInt); told(l) != "<61>:<> " {
		t.Errorf("Range of one key: %s", told(l))
	}
}
