package span

import (
	"fmt"
	"math"
	"math/rand"
	"slices"
	"testing"

	"daybook/api"
)

const (
	never = api.MinTime
	ever  = api.MaxTime
)

// of are the spans from each odd number on, ahead of the one behind it.
func of(l ...int64) []api.Span {
	var spans []api.Span
	for i := 0; i < len(l); i += 2 {
		spans = append(spans, api.Span{From: l[i], To: l[i+1]})
	}
	return spans
}

// marks cut time into stretches, with its ends and 0 among them.
var marks = []int64{never, never + 1, -1, 0, 1, ever - 1, ever}

// spanOf is the span of the stretches from one mark to another one.
func spanOf(from, to int) api.Span { return api.Span{From: marks[from], To: marks[to]} }

// stretches are which stretches between marks a span that may be has: bit i is that from mark i on.
func stretches(s api.Span) int {
	have := 0
	for i := range len(marks) - 1 {
		if s.From <= marks[i] && marks[i+1] <= s.To {
			have |= 1 << i
		}
	}
	return have
}

// setOf is the set of some stretches.
func setOf(have int) []api.Span {
	var set []api.Span
	for from := 0; from < len(marks)-1; from++ {
		if have>>from&1 == 0 {
			continue
		}
		to := from
		for have>>to&1 == 1 {
			to++
		}
		set = append(set, spanOf(from, to))
		from = to
	}
	return set
}

const allStretches = 1 << 6

// pairs are all spans from mark to mark, those that may not be too.
func pairs() []api.Span {
	var l []api.Span
	for from := range marks {
		for to := range marks {
			l = append(l, spanOf(from, to))
		}
	}
	return l
}

// upToThree are all lists of at most three of the pairs.
func upToThree() [][]api.Span {
	lists := [][]api.Span{nil, {}}
	all := pairs()
	for _, a := range all {
		lists = append(lists, []api.Span{a})
		for _, b := range all {
			lists = append(lists, []api.Span{a, b})
			for _, c := range all {
				lists = append(lists, []api.Span{a, b, c})
			}
		}
	}
	return lists
}

// model says whether all spans of a list may be, and which stretches they have.
func model(l []api.Span) (bool, int) {
	have := 0
	for _, s := range l {
		if s.From >= s.To {
			return false, 0
		}
		have |= stretches(s)
	}
	return true, have
}

// notSets are lists of spans that are no set.
func notSets() [][]api.Span {
	return [][]api.Span{
		of(0, 0), of(1, 0), of(ever, never), of(never, never), of(ever, ever), of(5, 1),
		of(1, 3, 3, 4), of(1, 3, 2, 4), of(1, 5, 2, 3), of(5, 6, 1, 2), of(1, 2, 1, 2), of(1, 2, 4, 4), of(4, 4, 6, 7), of(1, 2, 9, 7, 11, 12),
		of(never, 0, 0, ever), of(never, ever, never, ever), of(1, ever, ever, ever), of(1, 2, 4, 5, 5, 6), of(1, 2, 4, 5, 0, 1),
		of(0, 10, 20, 30, 5, 6), of(never, never, 5, 6),
	}
}

func TestCheck(t *testing.T) {
	for _, l := range [][]api.Span{nil, {}, of(1, 2), of(never, ever), of(never, never+1), of(ever-1, ever), of(1, 2, 3, 4), of(never, -1, 0, ever), of(1, 3, 4, 10, 12, 15, 17, ever), of(-5, -3, -2, 0, 1, 2)} {
		if e := Check(l); e != api.OK {
			t.Errorf("Check(%v) = %v", l, e)
		}
	}
	for _, l := range notSets() {
		if e := Check(l); e != api.ErrSpan {
			t.Errorf("Check(%v) = %v, want ErrSpan", l, e)
		}
	}
}

// A list is a set just if it is the one way in which its instants are told.
func TestCheckOfAllLists(t *testing.T) {
	for _, l := range upToThree() {
		want := api.ErrSpan
		if may, have := model(l); may && slices.Equal(l, setOf(have)) {
			want = api.OK
		}
		if e := Check(l); e != want {
			t.Fatalf("Check(%v) = %v, want %v", l, e, want)
		}
	}
}

func TestMake(t *testing.T) {
	for _, x := range []struct{ l, want []api.Span }{
		{nil, nil},
		{[]api.Span{}, nil},
		{of(5, 9, 1, 3, 3, 4, 8, 10), of(1, 4, 5, 10)},
		{of(1, 2), of(1, 2)},
		{of(1, 2, 1, 2), of(1, 2)},
		{of(1, 2, 3, 4), of(1, 2, 3, 4)},
		{of(3, 4, 1, 2), of(1, 2, 3, 4)},
		{of(2, 3, 1, 2), of(1, 3)},
		{of(1, 9, 2, 3), of(1, 9)},
		{of(2, 3, 1, 9, 4, 5, 10, 11, 9, 10), of(1, 11)},
		{of(1, 2, 1, 9, 1, 3), of(1, 9)},
		{of(0, ever, never, 0), of(never, ever)},
		{of(never, never+1, ever-1, ever), of(never, never+1, ever-1, ever)},
		{of(ever-1, ever, never, never+1, never+1, ever-1), of(never, ever)},
	} {
		if got, e := Make(x.l); e != api.OK || !slices.Equal(got, x.want) {
			t.Errorf("Make(%v) = %v, %v, want %v", x.l, got, e, x.want)
		}
	}
	for _, l := range [][]api.Span{of(0, 0), of(2, 1), of(ever, never), of(1, 2, 3, 3), of(3, 3, 1, 2), of(1, 9, 5, 4, 20, 30), of(never, never), of(ever, ever), of(1, 9, 5, 5)} {
		if got, e := Make(l); e != api.ErrSpan || len(got) != 0 {
			t.Errorf("Make(%v) = %v, %v, want nothing and ErrSpan", l, got, e)
		}
	}
}

func TestMakeOfAllLists(t *testing.T) {
	for _, l := range upToThree() {
		got, e := Make(l)
		may, have := model(l)
		if !may {
			if e != api.ErrSpan || len(got) != 0 {
				t.Fatalf("Make(%v) = %v, %v, want nothing and ErrSpan", l, got, e)
			}
			continue
		}
		if e != api.OK || !slices.Equal(got, setOf(have)) {
			t.Fatalf("Make(%v) = %v, %v, want %v", l, got, e, setOf(have))
		}
	}
}

// two are Or, And and Minus, with what they make of the stretches of two sets.
var two = []struct {
	name string
	do   func(a, b []api.Span) ([]api.Span, api.Errno)
	of   func(a, b int) int
}{
	{"Or", Or, func(a, b int) int { return a | b }},
	{"And", And, func(a, b int) int { return a & b }},
	{"Minus", Minus, func(a, b int) int { return a &^ b }},
}

func TestOrAndMinus(t *testing.T) {
	whole := of(never, ever)
	for _, x := range []struct{ a, b, or, and, minus []api.Span }{
		{of(1, 5), of(3, 9), of(1, 9), of(3, 5), of(1, 3)},
		{of(3, 9), of(1, 5), of(1, 9), of(3, 5), of(5, 9)},
		{nil, nil, nil, nil, nil},
		{[]api.Span{}, of(1, 2), of(1, 2), nil, nil},
		{of(1, 2), nil, of(1, 2), nil, of(1, 2)},
		{of(1, 2), of(1, 2), of(1, 2), of(1, 2), nil},
		{of(1, 2), of(2, 3), of(1, 3), nil, of(1, 2)},
		{of(2, 3), of(1, 2), of(1, 3), nil, of(2, 3)},
		{of(1, 2), of(3, 4), of(1, 2, 3, 4), nil, of(1, 2)},
		{of(1, 9), of(3, 5), of(1, 9), of(3, 5), of(1, 3, 5, 9)},
		{of(3, 5), of(1, 9), of(1, 9), of(3, 5), nil},
		{of(1, 5), of(1, 3), of(1, 5), of(1, 3), of(3, 5)},
		{of(1, 5), of(3, 5), of(1, 5), of(3, 5), of(1, 3)},
		{of(1, 3, 5, 7, 9, 11), of(3, 5, 7, 9), of(1, 11), nil, of(1, 3, 5, 7, 9, 11)},
		{of(1, 3, 5, 7, 9, 11), of(2, 10), of(1, 11), of(2, 3, 5, 7, 9, 10), of(1, 2, 10, 11)},
		{of(2, 10), of(1, 3, 5, 7, 9, 11), of(1, 11), of(2, 3, 5, 7, 9, 10), of(3, 5, 7, 9)},
		{whole, whole, whole, whole, nil},
		{whole, nil, whole, nil, whole},
		{nil, whole, whole, nil, nil},
		{whole, of(0, 1), whole, of(0, 1), of(never, 0, 1, ever)},
		{whole, of(never, 0), whole, of(never, 0), of(0, ever)},
		{whole, of(0, ever), whole, of(0, ever), of(never, 0)},
		{of(never, 0), of(0, ever), whole, nil, of(never, 0)},
		{of(never, never+1), of(ever-1, ever), of(never, never+1, ever-1, ever), nil, of(never, never+1)},
		{of(never, 5), of(never, never+1, 3, ever), whole, of(never, never+1, 3, 5), of(never+1, 3)},
	} {
		for i, want := range [][]api.Span{x.or, x.and, x.minus} {
			if got, e := two[i].do(x.a, x.b); e != api.OK || !slices.Equal(got, want) {
				t.Errorf("%s(%v, %v) = %v, %v, want %v", two[i].name, x.a, x.b, got, e, want)
			}
		}
	}
}

func TestOrAndMinusOfNoSets(t *testing.T) {
	sets := [][]api.Span{nil, of(1, 2), of(never, ever)}
	for _, f := range two {
		for _, bad := range notSets() {
			for _, other := range append(sets, notSets()...) {
				if got, e := f.do(bad, other); e != api.ErrSpan || len(got) != 0 {
					t.Errorf("%s(%v, %v) = %v, %v, want nothing and ErrSpan", f.name, bad, other, got, e)
				}
				if got, e := f.do(other, bad); e != api.ErrSpan || len(got) != 0 {
					t.Errorf("%s(%v, %v) = %v, %v, want nothing and ErrSpan", f.name, other, bad, got, e)
				}
			}
		}
	}
}

// All sets of the stretches between marks, two by two, with what follows of them.
func TestAllTwoSets(t *testing.T) {
	for a := range allStretches {
		for b := range allStretches {
			for _, f := range two {
				got, e := f.do(setOf(a), setOf(b))
				if want := setOf(f.of(a, b)); e != api.OK || !slices.Equal(got, want) || Check(got) != api.OK {
					t.Fatalf("%s(%v, %v) = %v, %v, want %v", f.name, setOf(a), setOf(b), got, e, want)
				}
			}
			if got, want := Covers(setOf(a), setOf(b)), b&^a == 0; got != want {
				t.Fatalf("Covers(%v, %v) = %v, want %v", setOf(a), setOf(b), got, want)
			}
			alone, also := only(Minus(setOf(a), setOf(b))), only(And(setOf(a), setOf(b)))
			shared, again := only(And(alone, also)), only(Or(alone, also))
			if len(shared) != 0 || !slices.Equal(again, setOf(a)) {
				t.Fatalf("Minus and And of %v and %v are %v and %v", setOf(a), setOf(b), alone, also)
			}
		}
	}
}

func TestHas(t *testing.T) {
	for _, x := range []struct {
		l    []api.Span
		at   int64
		want bool
	}{
		{nil, 0, false}, {nil, never, false},
		{of(1, 3), 0, false}, {of(1, 3), 1, true}, {of(1, 3), 2, true}, {of(1, 3), 3, false},
		{of(1, 3, 5, 7), 4, false}, {of(1, 3, 5, 7), 5, true}, {of(1, 3, 5, 7), 6, true}, {of(1, 3, 5, 7), 7, false},
		{of(never, ever), never, true}, {of(never, ever), 0, true}, {of(never, ever), ever - 1, true},
		// MaxTime is the end of spans, and no instant.
		{of(never, ever), ever, false}, {of(ever-1, ever), ever, false}, {of(ever-1, ever), ever - 1, true},
		{of(never, never+1), never, true}, {of(never, never+1), never + 1, false}, {of(never+1, 0), never, false},
		// Of spans that are no set nothing is had, not even ahead of the fault.
		{of(1, 3, 3, 5), 2, false}, {of(1, 3, 9, 9), 2, false}, {of(5, 6, 1, 3), 2, false}, {of(1, 3, 2, 5), 4, false}, {of(9, 9, 10, 12), 11, false},
	} {
		if got := Has(x.l, x.at); got != x.want {
			t.Errorf("Has(%v, %d) = %v, want %v", x.l, x.at, got, x.want)
		}
	}
	for have := range allStretches {
		for i, mark := range marks {
			if got, want := Has(setOf(have), mark), have>>i&1 == 1; got != want {
				t.Errorf("Has(%v, %d) = %v, want %v", setOf(have), mark, got, want)
			}
		}
	}
}

func TestCovers(t *testing.T) {
	for _, x := range []struct {
		a, b []api.Span
		want bool
	}{
		{nil, nil, true}, {of(1, 2), nil, true}, {nil, of(1, 2), false},
		{of(1, 5), of(1, 5), true}, {of(1, 5), of(2, 4), true}, {of(1, 5), of(1, 6), false}, {of(1, 5), of(0, 5), false}, {of(2, 4), of(1, 5), false},
		{of(1, 5), of(1, 2, 3, 4), true}, {of(1, 3, 4, 6), of(1, 6), false}, {of(1, 3, 4, 6), of(2, 3, 4, 5), true}, {of(1, 3, 4, 6), of(2, 3, 5, 7), false}, {of(1, 3, 4, 6), of(3, 4), false},
		{of(never, ever), of(never, ever), true}, {of(never, ever), of(ever-1, ever), true}, {of(never, ever-1), of(ever-1, ever), false}, {of(never+1, ever), of(never, ever), false},
		{of(1, 5), of(0, 1, 2, 3), false}, {of(1, 5), of(2, 3, 8, 9), false},
	} {
		if got := Covers(x.a, x.b); got != x.want {
			t.Errorf("Covers(%v, %v) = %v, want %v", x.a, x.b, got, x.want)
		}
	}
	for _, bad := range notSets() {
		if Covers(bad, nil) || Covers(of(never, ever), bad) || Covers(bad, bad) || Covers(bad, of(1, 2)) {
			t.Errorf("%v is no set, but Covers knows of it", bad)
		}
	}
}

// Many spans: what all functions answer of each other set of a long row of instants.
func TestManySpans(t *testing.T) {
	const many = 100000
	var even, odd, gaps []api.Span
	for i := range int64(many) {
		even = append(even, api.Span{From: 4 * i, To: 4*i + 2})
		odd = append(odd, api.Span{From: 4*i + 2, To: 4*i + 4})
		gaps = append(gaps, api.Span{From: 4*i + 1, To: 4*i + 2})
	}
	if Check(even) != api.OK || Covers(even, odd) || !Covers(even, gaps) || !Has(even, 4*many-3) || Has(even, 4*many-2) {
		t.Error("the many spans are not read as they are")
	}
	for _, x := range []struct {
		name      string
		got, want []api.Span
	}{
		{"Or", only(Or(even, odd)), of(0, 4*many)},
		{"And", only(And(even, odd)), nil},
		{"Minus", only(Minus(even, odd)), even},
		{"Minus of the whole", only(Minus(of(0, 4*many), odd)), even},
		{"And of gaps", only(And(gaps, even)), gaps},
	} {
		if !slices.Equal(x.got, x.want) {
			t.Errorf("%s of many spans: %d spans, want %d", x.name, len(x.got), len(x.want))
		}
	}
	mixed := slices.Concat(even, odd)
	rand.New(rand.NewSource(1)).Shuffle(len(mixed), func(i, j int) { mixed[i], mixed[j] = mixed[j], mixed[i] })
	if got, e := Make(mixed); e != api.OK || !slices.Equal(got, of(0, 4*many)) {
		t.Errorf("Make of many spans: %d spans, %v", len(got), e)
	}
	text, _ := Text(even)
	if got, e := Parse(text); e != api.OK || !slices.Equal(got, even) {
		t.Errorf("Parse of the text of many spans: %d spans, %v", len(got), e)
	}
}

// only is a list without its error.
func only(l []api.Span, _ api.Errno) []api.Span { return l }

// Random sets of narrow instants, asked instant by instant.
func TestInstantByInstant(t *testing.T) {
	r := rand.New(rand.NewSource(3))
	random := func() []api.Span {
		var l []api.Span
		for range r.Intn(6) {
			from := int64(r.Intn(30))
			l = append(l, api.Span{From: from, To: from + 1 + int64(r.Intn(5))})
		}
		return l
	}
	in := func(l []api.Span, at int64) bool {
		return slices.ContainsFunc(l, func(s api.Span) bool { return s.From <= at && at < s.To })
	}
	for range 3000 {
		listA, listB := random(), random()
		a, _ := Make(listA)
		b, _ := Make(listB)
		or, _ := Or(a, b)
		and, _ := And(a, b)
		minus, _ := Minus(a, b)
		covers := true
		for at := int64(-1); at < 40; at++ {
			inA, inB := in(listA, at), in(listB, at)
			covers = covers && (inA || !inB)
			got := fmt.Sprint(Has(a, at), Has(b, at), Has(or, at), Has(and, at), Has(minus, at))
			if want := fmt.Sprint(inA, inB, inA || inB, inA && inB, inA && !inB); got != want {
				t.Fatalf("%v and %v at %d: %s, want %s", listA, listB, at, got, want)
			}
		}
		if Covers(a, b) != covers {
			t.Fatalf("Covers(%v, %v) = %v", a, b, !covers)
		}
	}
}

// spoil writes over all that a list has room for.
func spoil(l []api.Span) {
	l = l[:cap(l)]
	for i := range l {
		l[i] = api.Span{From: math.MaxInt64, To: 7}
	}
}

// What is handed in stays as it is; what is answered is apart from it, and from other answers.
func TestNewMemory(t *testing.T) {
	a, b, loose := of(1, 5, 7, 9), of(3, 8), of(9, 10, 7, 9, 1, 2)
	keptA, keptB, keptLoose := slices.Clone(a), slices.Clone(b), slices.Clone(loose)
	text, _ := Text(a)
	for name, do := range map[string]func() []api.Span{
		"Or":          func() []api.Span { return only(Or(a, b)) },
		"Or of none":  func() []api.Span { return only(Or(nil, b)) },
		"Or and none": func() []api.Span { return only(Or(a, nil)) },
		"And":         func() []api.Span { return only(And(a, b)) },
		"And alike":   func() []api.Span { return only(And(a, a)) },
		"Minus":       func() []api.Span { return only(Minus(a, b)) },
		"Minus none":  func() []api.Span { return only(Minus(a, nil)) },
		"Make":        func() []api.Span { return only(Make(loose)) },
		"Make of set": func() []api.Span { return only(Make(a)) },
		"Parse":       func() []api.Span { return only(Parse(text)) },
	} {
		got, again := do(), do()
		kept := slices.Clone(again)
		spoil(got)
		if !slices.Equal(again, kept) {
			t.Errorf("two answers of %s share memory", name)
		}
		spoil(again)
		if last := do(); !slices.Equal(last, kept) {
			t.Errorf("%s answers %v, and then %v", name, kept, last)
		}
		if !slices.Equal(a, keptA) || !slices.Equal(b, keptB) || !slices.Equal(loose, keptLoose) {
			t.Fatalf("%s turned what it was handed, or shares memory with it", name)
		}
	}
	Check(a)
	Has(loose, 1)
	Covers(a, b)
	if !slices.Equal(a, keptA) || !slices.Equal(b, keptB) || !slices.Equal(loose, keptLoose) {
		t.Error("what was handed in has turned")
	}
}

// Room behind a list that is handed in is not written to.
func TestRoomBehind(t *testing.T) {
	whole := of(1, 2, 3, 4, 7, 9)
	kept := slices.Clone(whole)
	for _, f := range two {
		f.do(whole[:1], whole[1:2])
		f.do(whole[1:2], whole[:1])
	}
	Make(whole[:1])
	if !slices.Equal(whole, kept) {
		t.Errorf("what stands behind a list has turned to %v", whole)
	}
}

// What tells two sets together stops when no more is wanted, and tells all when asked again.
func TestToldStops(t *testing.T) {
	type piece struct {
		s   api.Span
		who owner
	}
	want := []piece{{api.Span{From: 1, To: 3}, first}, {api.Span{From: 3, To: 5}, both}, {api.Span{From: 5, To: 6}, second}, {api.Span{From: 8, To: ever}, first}}
	seq := told(of(1, 5, 8, ever), of(3, 6))
	for most := 1; most <= len(want); most++ {
		var got []piece
		for s, who := range seq {
			got = append(got, piece{s, who})
			if len(got) == most {
				break
			}
		}
		if !slices.Equal(got, want[:most]) {
			t.Errorf("the first %d pieces: %v", most, got)
		}
	}
}
