package facts

import (
	"math"
	"math/rand"
	"slices"
	"testing"

	"daybook/api"
	"daybook/datom"
)

func TestChanges(t *testing.T) {
	for _, x := range []struct {
		old, now []int64
		want     []api.Datom
	}{
		{nil, nil, nil},
		{nil, []int64{0, 4, 6, 10}, []api.Datom{said(3, true, 0, 4), said(3, true, 6, 10)}},
		{[]int64{0, 4, 6, 10}, nil, []api.Datom{said(3, false, 0, 4), said(3, false, 6, 10)}},
		{[]int64{0, 4, 6, 10}, []int64{0, 4, 6, 10}, nil},
		{[]int64{0, 4, 6, 10}, []int64{0, 10}, []api.Datom{said(3, true, 4, 6)}},
		{[]int64{0, 10}, []int64{0, 4, 6, 10}, []api.Datom{said(3, false, 4, 6)}},
		// What is added stands ahead of what is cut, though the instants stand behind.
		{[]int64{0, 10}, []int64{5, 15}, []api.Datom{said(3, true, 10, 15), said(3, false, 0, 5)}},
		{[]int64{0, 2, 4, 6, 8, 10}, []int64{1, 3, 5, 7, 9, 11}, []api.Datom{said(3, true, 2, 3), said(3, true, 6, 7), said(3, true, 10, 11), said(3, false, 0, 1), said(3, false, 4, 5), said(3, false, 8, 9)}},
		{[]int64{never, ever}, []int64{0, 1}, []api.Datom{said(3, false, never, 0), said(3, false, 1, ever)}},
		{[]int64{0, 1}, []int64{never, ever}, []api.Datom{said(3, true, never, 0), said(3, true, 1, ever)}},
	} {
		facts := func(l []int64) []api.Fact {
			if len(l) == 0 {
				return nil
			}
			return []api.Fact{fact(5, 10, number(1), l...)}
		}
		if got, e := Changes(facts(x.old), facts(x.now), 3); e != api.OK || !slices.Equal(got, x.want) {
			t.Errorf("Changes(%v, %v, 3) = %v, %v, want %v", x.old, x.now, got, e, x.want)
		}
	}
}

// All facts of one list of the rising ones against all of another: each is added, cut, or stays.
func TestChangesOfOtherTriples(t *testing.T) {
	all := rising()[:6]
	for old := range 1 << len(all) {
		for now := range 1 << len(all) {
			var l, m []api.Fact
			var want []api.Datom
			for i, f := range all {
				was, is := old>>i&1 == 1, now>>i&1 == 1
				if was {
					l = append(l, f)
				}
				if is {
					m = append(m, f)
				}
				for _, s := range f.Spans {
					if was != is {
						want = append(want, api.Datom{E: f.E, A: f.A, V: f.V, T: api.MaxTx, Add: is, From: s.From, To: s.To})
					}
				}
			}
			if got, e := Changes(l, m, api.MaxTx); e != api.OK || !slices.Equal(got, want) {
				t.Fatalf("Changes(%v, %v) = %v, %v, want %v", l, m, got, e, want)
			}
		}
	}
}

func TestChangesOfWrong(t *testing.T) {
	good := []api.Fact{example()}
	for _, n := range []int64{0, -1, math.MinInt64, api.MaxTx + 1, math.MaxInt64} {
		for _, l := range [][]api.Fact{nil, good} {
			if got, e := Changes(l, good, n); e != api.ErrArg || len(got) != 0 {
				t.Errorf("Changes(%v, %v, %d) = %v, %v, want nothing and ErrArg", l, good, n, got, e)
			}
		}
	}
	for _, n := range []int64{1, api.MaxTx} {
		if got, e := Changes(nil, good, n); e != api.OK || len(got) != 2 || got[0].T != n || got[1].T != n {
			t.Errorf("Changes(nil, %v, %d) = %v, %v", good, n, got, e)
		}
	}
	for _, wrong := range wrongLists() {
		for _, other := range [][]api.Fact{nil, good, wrong} {
			for _, n := range []int64{0, 3, api.MaxTx + 1} {
				if got, e := Changes(wrong, other, n); e != api.ErrFacts || len(got) != 0 {
					t.Errorf("Changes(%v, %v, %d) = %v, %v, want nothing and ErrFacts", wrong, other, n, got, e)
				}
				if got, e := Changes(other, wrong, n); e != api.ErrFacts || len(got) != 0 {
					t.Errorf("Changes(%v, %v, %d) = %v, %v, want nothing and ErrFacts", other, wrong, n, got, e)
				}
			}
		}
	}
}

// holds says whether some facts have a triple at an instant.
func holds(l []api.Fact, p triple, at int64) bool {
	return slices.ContainsFunc(l, func(f api.Fact) bool {
		return f.E == p.e && f.A == p.a && f.V == p.v && slices.ContainsFunc(f.Spans, func(s api.Span) bool { return s.From <= at && at < s.To })
	})
}

// Changes say of each instant what turns, in whole spans, in order; behind the datoms of the elder facts they are folded to the later ones.
func TestChangesDrawn(t *testing.T) {
	r := rand.New(rand.NewSource(4))
	for range 2000 {
		l, m := drawnTogether(r, 20), drawnTogether(r, 20)
		old, _ := model(l)
		now, _ := model(m)
		got, e := Changes(old, now, 7)
		if e != api.OK || !slices.Equal(got, datom.Sorted(api.EAVT, got)) {
			t.Fatalf("Changes(%v, %v) = %v, %v", old, now, got, e)
		}
		for _, f := range append(slices.Clone(old), now...) {
			p := triple{f.E, f.A, f.V}
			for _, at := range []int64{never, -4, -3, -1, 0, 1, 2, 4, 5, 7, 8, ever - 1, ever} {
				was, is := holds(old, p, at), holds(now, p, at)
				added, cut := holds(alone(got, true), p, at), holds(alone(got, false), p, at)
				if added != (is && !was) || cut != (was && !is) {
					t.Fatalf("Changes(%v, %v) = %v, at %d", old, now, got, at)
				}
			}
		}
		if Check(alone(got, true)) != api.OK || Check(alone(got, false)) != api.OK {
			t.Fatalf("Changes(%v, %v) = %v, which are no whole spans", old, now, got)
		}
		if back, e := Fold(append(slices.Clone(l), got...)); e != api.OK || !sameFacts(back, now) {
			t.Fatalf("%v and behind them %v are folded to %v, %v, want %v", l, got, back, e, now)
		}
	}
}

// alone are the spans of the datoms that are Add, or of those that are not, as facts.
func alone(l []api.Datom, add bool) []api.Fact {
	var facts []api.Fact
	for _, d := range l {
		if d.Add != add {
			continue
		}
		if last := len(facts) - 1; last < 0 || (triple{facts[last].E, facts[last].A, facts[last].V}) != (triple{d.E, d.A, d.V}) {
			facts = append(facts, api.Fact{E: d.E, A: d.A, V: d.V})
		}
		last := len(facts) - 1
		facts[last].Spans = append(facts[last].Spans, api.Span{From: d.From, To: d.To})
	}
	return facts
}

func TestChangesLeaveWhatIsHandedIn(t *testing.T) {
	old, now := roomBehind(rising()[:9]), roomBehind(rising()[4:])
	allOld, allNow := old[:len(old)+2], now[:len(now)+2]
	keptOld, keptNow := copied(allOld), copied(allNow)
	got, e := Changes(old, now, 3)
	if e != api.OK || len(got) == 0 || !sameFacts(allOld, keptOld) || !sameFacts(allNow, keptNow) {
		t.Errorf("Changes = %v, or what was handed in was turned", e)
	}
}
