package rows

import (
	"maps"
	"math/rand"
	"slices"
	"testing"

	"daybook/api"
)

// The model goes by the chapter's words: a row is what it says of each column, and each is held against each.

type said map[string]api.Value

func saysOf(r Rel) []said {
	var l []said
	for _, x := range r.Rows {
		s := said{}
		for i, c := range r.Cols {
			s[c] = x[i]
		}
		l = append(l, s)
	}
	return l
}

// agree says whether two say the same of each column of which both say something.
func agree(a, b said) bool {
	for c, v := range a {
		if w, is := b[c]; is && v != w {
			return false
		}
	}
	return true
}

// ahead says whether a row stands ahead of another one.
func ahead(a, b api.Row) bool {
	for i, v := range a {
		if i == len(b) {
			return false
		}
		w := b[i]
		switch {
		case v.Kind != w.Kind:
			return v.Kind < w.Kind
		case v.N != w.N:
			return v.N < w.N
		case v.S != w.S:
			return v.S < w.S
		}
	}
	return len(a) < len(b)
}

// relOf puts each of what is said where it stands, unless it is there.
func relOf(cols []string, l []said) Rel {
	r := Rel{Cols: cols}
putting:
	for _, s := range l {
		var x api.Row
		for _, c := range cols {
			x = append(x, s[c])
		}
		for i, y := range r.Rows {
			if slices.Equal(x, y) {
				continue putting
			}
			if ahead(x, y) {
				r.Rows = slices.Insert(r.Rows, i, x)
				continue putting
			}
		}
		r.Rows = append(r.Rows, x)
	}
	return r
}

func modelJoin(a, b Rel) Rel {
	cols := slices.Clone(a.Cols)
	for _, c := range b.Cols {
		if !slices.Contains(cols, c) {
			cols = append(cols, c)
		}
	}
	var l []said
	for _, x := range saysOf(a) {
		for _, y := range saysOf(b) {
			if agree(x, y) {
				s := maps.Clone(x)
				maps.Copy(s, y)
				l = append(l, s)
			}
		}
	}
	return relOf(cols, l)
}

func modelWithout(a, b Rel) Rel {
	var l []said
	for _, x := range saysOf(a) {
		if !slices.ContainsFunc(saysOf(b), func(y said) bool { return agree(x, y) }) {
			l = append(l, x)
		}
	}
	return relOf(a.Cols, l)
}

// modelOr tells whether there is one, too.
func modelOr(a, b Rel) (Rel, bool) {
	if !slices.Equal(slices.Sorted(slices.Values(a.Cols)), slices.Sorted(slices.Values(b.Cols))) {
		return Rel{}, false
	}
	return relOf(a.Cols, append(saysOf(a), saysOf(b)...)), true
}

// holds holds what is made of two relations against the model.
func holds(t *testing.T, a, b Rel) {
	t.Helper()
	of := "(" + brief(a) + ", " + brief(b) + ")"
	got, e := Join(a, b)
	expect(t, "Join"+of, got, e, modelJoin(a, b), api.OK)
	got, e = Without(a, b)
	expect(t, "Without"+of, got, e, modelWithout(a, b), api.OK)
	got, e = Or(a, b)
	if want, is := modelOr(a, b); is {
		expect(t, "Or"+of, got, e, want, api.OK)
	} else {
		expect(t, "Or"+of, got, e, Rel{}, api.ErrArg)
	}
	for _, x := range a.Rows {
		if has := slices.ContainsFunc(b.Rows, func(y api.Row) bool { return slices.Equal(x, y) }); Has(b, x) != has {
			t.Errorf("Has(%s, %v) is not %v", brief(b), x, has)
		}
	}
}

// holdsOne holds what is made of a relation and columns against the model.
func holdsOne(t *testing.T, r Rel, cols []string) {
	t.Helper()
	once, of := true, true
	for i, c := range cols {
		once = once && !slices.Contains(cols[:i], c)
		of = of && slices.Contains(r.Cols, c)
	}
	got, e := Project(r, cols)
	if once && of {
		expect(t, "Project("+brief(r)+")", got, e, relOf(cols, saysOf(r)), api.OK)
	} else {
		expect(t, "Project("+brief(r)+")", got, e, Rel{}, api.ErrArg)
	}
	got, e = Rename(r, cols)
	if once && len(cols) == len(r.Cols) {
		expect(t, "Rename("+brief(r)+")", got, e, Rel{Cols: cols, Rows: r.Rows}, api.OK)
	} else {
		expect(t, "Rename("+brief(r)+")", got, e, Rel{}, api.ErrArg)
	}
}

// made calls what must be answered.
func made(t *testing.T, call both, a, b Rel) Rel {
	t.Helper()
	r, e := call(a, b)
	if e != api.OK || !May(r) {
		t.Fatalf("of %s and %s: %s, %v", brief(a), brief(b), brief(r), e)
	}
	return r
}

// inCols is a relation with its columns in another order.
func inCols(t *testing.T, r Rel, cols []string) Rel {
	t.Helper()
	p, e := Project(r, cols)
	if e != api.OK || len(cols) != len(r.Cols) {
		t.Fatalf("%s in %v: %v", brief(r), cols, e)
	}
	return p
}

// follows asks for what follows (P14.6) of three relations.
func follows(t *testing.T, a, b, c Rel) {
	t.Helper()
	if !same(made(t, Join, a, a), a) || !same(made(t, Without, a, a), Rel{Cols: a.Cols}) {
		t.Errorf("of %s and itself", brief(a))
	}
	ab, without := made(t, Join, a, b), made(t, Without, a, b)
	if !same(inCols(t, made(t, Join, b, a), ab.Cols), ab) {
		t.Errorf("Join of %s and %s has another order", brief(a), brief(b))
	}
	abc := made(t, Join, ab, c)
	for _, other := range []Rel{made(t, Join, a, made(t, Join, b, c)), made(t, Join, made(t, Join, c, a), b), made(t, Join, c, made(t, Join, b, a))} {
		if !same(inCols(t, other, abc.Cols), abc) {
			t.Errorf("Join of %s, %s and %s is %s, and %s in another order", brief(a), brief(b), brief(c), brief(abc), brief(other))
		}
	}
	joined, _ := Project(ab, a.Cols)
	if !same(joined, made(t, Without, a, without)) {
		t.Errorf("of %s and %s: %s have a row, %s have none", brief(a), brief(b), brief(joined), brief(without))
	}
	if or, e := Or(a, b); e == api.OK {
		turned := inCols(t, b, a.Cols)
		for _, x := range slices.Concat(a.Rows, b.Rows, turned.Rows, c.Rows) {
			if Has(or, x) != (Has(a, x) || Has(turned, x)) {
				t.Errorf("Or of %s and %s, of %v", brief(a), brief(b), x)
			}
		}
	}
}

// small are all relations of at most two columns, of two names and two values.
func small() []Rel {
	l := []Rel{{}, rel("", "")}
	for _, cols := range []string{"x", "y", "x y", "y x"} {
		all := rel(cols, "1", `"a"`)
		if len(all.Cols) == 2 {
			all = rel(cols, "1 1", `1 "a"`, `"a" 1`, `"a" "a"`)
		}
		for n := range 1 << len(all.Rows) {
			r := Rel{Cols: all.Cols}
			for i, x := range all.Rows {
				if n>>i&1 == 1 {
					r.Rows = append(r.Rows, x)
				}
			}
			l = append(l, r)
		}
	}
	return l
}

func TestAllSmall(t *testing.T) {
	l := small()
	for i, a := range l {
		for j, b := range l {
			holds(t, a, b)
			follows(t, a, b, l[(i*5+j*11)%len(l)])
		}
		for _, cols := range [][]string{nil, {"x"}, {"y"}, {"z"}, {"x", "y"}, {"y", "x"}, {"x", "z"}, {"x", "x"}, {"x", "y", "z"}, {"x", "y", "x"}} {
			holdsOne(t, a, cols)
		}
	}
}

// drawnCols are some columns of a few, each once, in any order.
func drawnCols(r *rand.Rand) []string {
	all := []string{"", "x", "y", "z", "?x"}
	r.Shuffle(len(all), func(i, j int) { all[i], all[j] = all[j], all[i] })
	return all[:r.Intn(len(all))]
}

// drawnRows are rows, some of them more than once, in any order.
func drawnRows(r *rand.Rand, n int) []api.Row {
	values := []api.Value{number(1), number(2), {Kind: api.KText, S: "1"}, {Kind: api.KTime, N: 1}, {Kind: 77, N: 1, S: "1"}}[:2+r.Intn(4)]
	l := make([]api.Row, r.Intn(25))
	for i := range l {
		for range n {
			l[i] = append(l[i], values[r.Intn(len(values))])
		}
	}
	return l
}

func drawn(t *testing.T, r *rand.Rand, cols []string) Rel {
	l := drawnRows(r, len(cols))
	got, e := Of(cols, l)
	expect(t, "Of", got, e, relOf(cols, saysOf(Rel{Cols: cols, Rows: l})), api.OK)
	return got
}

func TestDrawn(t *testing.T) {
	r := rand.New(rand.NewSource(14))
	for range 4000 {
		a, b, c := drawn(t, r, drawnCols(r)), drawn(t, r, drawnCols(r)), drawn(t, r, drawnCols(r))
		turned := slices.Clone(a.Cols)
		r.Shuffle(len(turned), func(i, j int) { turned[i], turned[j] = turned[j], turned[i] })
		like := drawn(t, r, turned)
		holds(t, a, b)
		holds(t, a, like)
		follows(t, a, b, c)
		follows(t, a, like, b)
		holdsOne(t, a, drawnCols(r))
		holdsOne(t, a, turned)
		holdsOne(t, a, turned[:r.Intn(len(turned)+1)])
	}
}
