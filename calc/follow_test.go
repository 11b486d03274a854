package calc

import (
	"math/rand"
	"slices"
	"testing"

	"daybook/api"
	"daybook/value"
)

// comesBack asks that what was put together with a value by one function is taken away by another one.
func comesBack(t *testing.T, name, back string, a, b api.Value) {
	t.Helper()
	v, is, e := Do(name, []api.Value{a, b})
	if e != api.OK {
		t.Errorf("Do of %s and %s: %v", name, brief(a, b), e)
	}
	if is {
		expectDo(t, back, []api.Value{v, b}, a, true, api.OK)
	}
}

// What was put together is there again by its lengths.
func comesApart(t *testing.T, a, b api.Value) {
	t.Helper()
	v, is, e := Do("cat", []api.Value{a, b})
	if e != api.OK {
		t.Errorf("Do of cat and %s: %v", brief(a, b), e)
	}
	if is {
		first, whole := number(int64(len(a.S))), number(int64(len(a.S)+len(b.S)))
		expectDo(t, "len", []api.Value{v}, whole, true, api.OK)
		expectDo(t, "sub", []api.Value{v, number(0), first}, a, true, api.OK)
		expectDo(t, "sub", []api.Value{v, first, whole}, b, true, api.OK)
	}
}

// oneOf asks that just one of <, = and > says true, and the others as they follow from these.
func oneOf(t *testing.T, a, b api.Value) {
	t.Helper()
	says := map[string]bool{}
	var are int
	for _, name := range []string{"<", "=", ">", "<=", "!=", ">="} {
		is, e := Test(name, []api.Value{a, b})
		if e != api.OK {
			t.Errorf("Test of %s and %s: %v", name, brief(a, b), e)
		}
		if says[name] = is; is && len(name) == 1 {
			are++
		}
	}
	if are != 1 || says["<="] == says[">"] || says["!="] == says["="] || says[">="] == says["<"] {
		t.Errorf("of %s: %v", brief(a, b), says)
	}
}

// mayBe asks that what is answered may be, and that nothing is where there is no answer.
func mayBe(t *testing.T, l ...api.Value) {
	t.Helper()
	for name, takes := range functions {
		if takes != len(l) {
			continue
		}
		v, is, e := Do(name, l)
		if e != api.OK || is != (value.Check(v) == api.OK) || !is && v != (api.Value{}) {
			t.Errorf("Do of %s and %s = %s, %v, %v", name, brief(l...), brief(v), is, e)
		}
	}
}

func follows(t *testing.T, a, b api.Value) {
	t.Helper()
	comesBack(t, "+", "-", a, b)
	comesBack(t, "-", "+", a, b)
	comesApart(t, a, b)
	oneOf(t, a, b)
	mayBe(t, a)
	mayBe(t, a, b)
	mayBe(t, a, b, b)
}

func TestWhatFollows(t *testing.T) {
	l := allowed()
	for _, a := range l {
		for _, b := range l {
			follows(t, a, b)
		}
	}
	r := rand.New(rand.NewSource(16))
	for range 20000 {
		follows(t, drawn(r), drawn(r))
		follows(t, drawnBytes(r), drawnBytes(r))
	}
}

// All names, with lists of any length, of any values.
func TestAnything(t *testing.T) {
	r := rand.New(rand.NewSource(17))
	names := slices.Concat(Names(), strangers())
	pool := slices.Concat(allowed(), refused())
	for range 100000 {
		name, l := names[r.Intn(len(names))], make([]api.Value, r.Intn(5))
		for i := range l {
			l[i] = pool[r.Intn(len(pool))]
		}
		wrong := slices.ContainsFunc(l, func(v api.Value) bool { return value.Check(v) != api.OK })
		asked := func(table map[string]int) api.Errno {
			if takes, is := table[name]; !is || takes != len(l) {
				return api.ErrCalc
			}
			if wrong {
				return api.ErrKind
			}
			return api.OK
		}
		if says, e := Test(name, l); e != asked(predicates) || e != api.OK && says {
			t.Errorf("Test of %.20q and %s = %v, %v", name, brief(l...), says, e)
		}
		if v, is, e := Do(name, l); e != asked(functions) || e != api.OK && is || !is && v != (api.Value{}) {
			t.Errorf("Do of %.20q and %s = %s, %v, %v", name, brief(l...), brief(v), is, e)
		}
	}
}
