package facts

import (
	"math"
	"slices"
	"strings"
	"testing"

	"daybook/api"
)

const (
	never = api.MinTime
	ever  = api.MaxTime
)

func number(n int64) api.Value { return api.Value{Kind: api.KInt, N: n} }

func text(s string) api.Value { return api.Value{Kind: api.KText, S: s} }

// of are the spans from each odd number on, ahead of the one behind it.
func of(l ...int64) []api.Span {
	var spans []api.Span
	for i := 0; i < len(l); i += 2 {
		spans = append(spans, api.Span{From: l[i], To: l[i+1]})
	}
	return spans
}

func fact(e, a int64, v api.Value, l ...int64) api.Fact {
	return api.Fact{E: e, A: a, V: v, Spans: of(l...)}
}

// example is a fact that may be.
func example() api.Fact { return fact(5, 10, number(1), 0, 4, 6, 10) }

// turnedTo is the example with something turned.
func turnedTo(turn func(*api.Fact)) api.Fact {
	f := example()
	turn(&f)
	return f
}

func sameFacts(a, b []api.Fact) bool {
	return slices.EqualFunc(a, b, func(f, g api.Fact) bool {
		return f.E == g.E && f.A == g.A && f.V == g.V && slices.Equal(f.Spans, g.Spans)
	})
}

// rising are facts in order, whose neighbours are unlike in E, in A, in V's Kind, in its N, in its S.
func rising() []api.Fact {
	return []api.Fact{
		fact(0, 0, api.Value{Kind: api.KRef, N: api.MaxEntity - 1}, never, ever),
		fact(1, 9, number(5), 1, 2),
		fact(1, 10, number(math.MinInt64), ever-1, ever),
		fact(1, 10, number(-1), never, 0, 1, ever),
		fact(1, 10, number(0), 3, 4),
		fact(1, 10, api.Value{Kind: api.KBool}, 0, 1),
		fact(1, 10, text(""), 0, 1, 2, 3),
		fact(1, 10, text("a"), -5, -4),
		fact(1, 10, text("a\x00"), never, never+1),
		fact(1, 10, text("b"), 1, 3, 5, 7, 9, 11),
		fact(1, 11, number(-7), 1, 2),
		fact(2, 9, number(-8), 1, 2),
		fact(api.MaxEntity-1, api.MaxEntity-1, text(strings.Repeat("\xff", api.MaxText)), 0, ever),
	}
}

// mayNot are facts that may not be, each for one thing alone.
func mayNot() []api.Fact {
	l := []api.Fact{{}}
	for _, n := range []int64{-1, math.MinInt64, api.MaxEntity, math.MaxInt64} {
		l = append(l, turnedTo(func(f *api.Fact) { f.E = n }), turnedTo(func(f *api.Fact) { f.A = n }))
	}
	for _, v := range []api.Value{{}, {Kind: 8, N: 7}, {Kind: -1}, {Kind: api.KRef, N: api.MaxEntity}, {Kind: api.KRef, N: -1}, {Kind: api.KInt, S: "a"}, {Kind: api.KBool, N: 2}, {Kind: api.KText, N: 1}, text(strings.Repeat("a", api.MaxText+1)), {Kind: api.KWord}} {
		l = append(l, turnedTo(func(f *api.Fact) { f.V = v }))
	}
	for _, s := range [][]api.Span{nil, {}, of(0, 0), of(1, 0), of(ever, never), of(1, 3, 3, 4), of(1, 3, 2, 4), of(5, 6, 1, 2), of(1, 2, 1, 2), of(1, 2, 4, 4)} {
		l = append(l, turnedTo(func(f *api.Fact) { f.Spans = s }))
	}
	return l
}

// wrongLists are lists of facts that may not be: for one of them, or for how they stand.
func wrongLists() [][]api.Fact {
	ahead, behind := fact(0, 0, number(0), 0, 1), fact(api.MaxEntity-1, 0, number(0), 0, 1)
	var lists [][]api.Fact
	for _, f := range mayNot() {
		lists = append(lists, []api.Fact{f}, []api.Fact{ahead, f}, []api.Fact{f, behind})
	}
	l := rising()
	for i := range l {
		for j := range i + 1 {
			lists = append(lists, []api.Fact{l[i], l[j]}, []api.Fact{ahead, l[i], l[j], behind})
		}
	}
	once, again := example(), example()
	again.Spans = of(20, 30)
	return append(lists, []api.Fact{once, again}, []api.Fact{ahead, once, behind, once})
}

func TestCheck(t *testing.T) {
	all := rising()
	for from := range all {
		for to := from; to <= len(all); to++ {
			if e := Check(all[from:to]); e != api.OK {
				t.Errorf("Check(%v) = %v", all[from:to], e)
			}
		}
	}
	for _, l := range [][]api.Fact{nil, {}, {example()}, {all[0], all[3], all[12]}} {
		if e := Check(l); e != api.OK {
			t.Errorf("Check(%v) = %v", l, e)
		}
	}
	for _, l := range wrongLists() {
		if e := Check(l); e != api.ErrFacts {
			t.Errorf("Check(%v) = %v, want ErrFacts", l, e)
		}
	}
}

func TestAt(t *testing.T) {
	a, b, c := fact(1, 10, number(1), never, 3, 5, 9), fact(1, 10, number(2), 3, 5), fact(2, 10, number(1), 4, ever)
	l := []api.Fact{a, b, c}
	for _, x := range []struct {
		at   int64
		want []api.Fact
	}{
		{never, []api.Fact{a}}, {2, []api.Fact{a}}, {3, []api.Fact{b}}, {4, []api.Fact{b, c}}, {5, []api.Fact{a, c}}, {8, []api.Fact{a, c}}, {9, []api.Fact{c}},
		// MaxTime is the end of spans, and no instant.
		{ever - 1, []api.Fact{c}}, {ever, nil},
	} {
		if got, e := At(l, x.at); e != api.OK || !sameFacts(got, x.want) {
			t.Errorf("At(%v, %d) = %v, %v, want %v", l, x.at, got, e, x.want)
		}
	}
	if got, e := At(nil, 0); e != api.OK || len(got) != 0 {
		t.Errorf("At(nil, 0) = %v, %v", got, e)
	}
	for _, l := range wrongLists() {
		if got, e := At(l, 0); e != api.ErrFacts || len(got) != 0 {
			t.Errorf("At(%v, 0) = %v, %v, want nothing and ErrFacts", l, got, e)
		}
	}
}

func TestSpans(t *testing.T) {
	l := rising()
	for _, f := range l {
		if got, e := Spans(l, f.E, f.A, f.V); e != api.OK || !slices.Equal(got, f.Spans) {
			t.Errorf("Spans of %v = %v, %v", f, got, e)
		}
	}
	for _, f := range append(mayNot(), example(), fact(1, 10, number(1), 0, 1), fact(1, 10, api.Value{Kind: api.KBytes, S: "a"}, 0, 1), fact(1, 9, number(0), 0, 1), fact(2, 10, number(0), 0, 1), fact(1, 10, api.Value{Kind: api.KInt, S: "a"}, 0, 1)) {
		if got, e := Spans(l, f.E, f.A, f.V); e != api.OK || len(got) != 0 {
			t.Errorf("Spans of %v = %v, %v, want none", f, got, e)
		}
	}
	if got, e := Spans(nil, 5, 10, number(1)); e != api.OK || len(got) != 0 {
		t.Errorf("Spans(nil) = %v, %v", got, e)
	}
	for _, l := range wrongLists() {
		if got, e := Spans(l, 0, 0, number(0)); e != api.ErrFacts || len(got) != 0 {
			t.Errorf("Spans(%v) = %v, %v, want nothing and ErrFacts", l, got, e)
		}
	}
}

// copied are facts of memory of their own.
func copied(l []api.Fact) []api.Fact {
	own := slices.Clone(l)
	for i := range own {
		own[i].Spans = slices.Clone(own[i].Spans)
	}
	return own
}

// spoilSpans writes to all of a list, and to the room behind it.
func spoilSpans(l []api.Span) {
	l = l[:cap(l)]
	for i := range l {
		l[i] = api.Span{From: 77, To: -77}
	}
}

// eachOwn says whether writing to one fact's spans leaves all others as they are; it spoils the facts.
func eachOwn(l []api.Fact) bool {
	for i := range l {
		kept := copied(l)
		spoilSpans(l[i].Spans)
		kept[i].Spans = l[i].Spans
		if !sameFacts(l, kept) {
			return false
		}
	}
	return true
}

// roomBehind is a list of facts with some behind it, in the same memory.
func roomBehind(l []api.Fact) []api.Fact {
	return append(slices.Clone(l), example(), example())[:len(l)]
}

func TestNewMemoryOfFacts(t *testing.T) {
	l := roomBehind(rising())
	all := l[:len(l)+2]
	kept := copied(all)
	got, e := At(l, 1)
	if e != api.OK || len(got) < 5 || !eachOwn(got) || !sameFacts(all, kept) {
		t.Error("what At answers is not of its own memory")
	}
	for _, f := range kept[:len(l)] {
		spans, e := Spans(l, f.E, f.A, f.V)
		spoilSpans(spans)
		if e != api.OK || !sameFacts(all, kept) {
			t.Errorf("what Spans answers of %v is not of its own memory", f)
		}
	}
	if Check(l) != api.OK || !sameFacts(all, kept) {
		t.Error("what was handed in was turned")
	}
}
