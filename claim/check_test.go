package claim

import (
	"slices"
	"strings"
	"testing"

	"daybook/api"
)

// values are those of all kinds that may be.
func values() []api.Value {
	return []api.Value{
		num(0), num(api.MinTime), num(7), {Kind: api.KBool}, {Kind: api.KBool, N: 1}, str(""), str("a\"b\n;)\xff"), str(strings.Repeat("x", api.MaxText)), {Kind: api.KBytes}, {Kind: api.KBytes, S: "\x00\xff"},
		{Kind: api.KTime}, {Kind: api.KTime, N: api.MinTime}, {Kind: api.KTime, N: api.MaxTime}, {Kind: api.KWord, S: "a"}, {Kind: api.KWord, S: "a/b.c-d_9"}, {Kind: api.KWord, S: strings.Repeat("z", api.MaxWord)},
	}
}

// wrongValues may not be.
func wrongValues() []api.Value {
	return []api.Value{
		{}, {N: 1}, {S: "a"}, {Kind: -1}, {Kind: 8}, {Kind: 1 << 40}, {Kind: api.KInt, S: "a"}, {Kind: api.KBool, N: 2}, {Kind: api.KText, N: 1}, {Kind: api.KText, S: strings.Repeat("x", api.MaxText+1)}, {Kind: api.KBytes, N: 1},
		{Kind: api.KRef, N: -1}, {Kind: api.KRef, N: api.MaxEntity}, {Kind: api.KRef, S: "a"}, {Kind: api.KTime, S: "a"}, {Kind: api.KWord}, {Kind: api.KWord, S: "A"}, {Kind: api.KWord, S: "a", N: 1},
	}
}

func entities() []api.Entity {
	l := []api.Entity{ent(0), ent(7), ent(api.MaxEntity - 1), temp("a"), temp("add"), temp("-"), temp("?x"), temp(strings.Repeat("a", api.MaxName)), look("a/b", api.Value{Kind: api.KRef, N: 7}), look("true", num(1)), look(strings.Repeat("a", api.MaxWord), num(1))}
	for _, v := range values() {
		l = append(l, look("a", v))
	}
	return l
}

func wrongEntities() []api.Entity {
	l := []api.Entity{
		{}, {N: 1}, {Name: "a"}, {V: num(1)}, {Kind: -1, N: 1}, {Kind: 4, N: 1}, {Kind: 4, Name: "a"}, {Kind: 4, Name: "a", V: num(1)},
		ent(-1), ent(api.MaxEntity), ent(api.MinTime), ent(api.MaxTime), {Kind: api.EntNumber, N: 1, Name: "a"}, {Kind: api.EntNumber, N: 1, V: num(1)}, {Kind: api.EntNumber, N: 1, V: api.Value{N: 1}}, {Kind: api.EntNumber, N: 1, V: api.Value{Kind: api.KRef, N: 1}},
		temp(""), temp("A"), temp("5"), temp("-5"), temp("true"), temp("false"), temp("a b"), temp("a:b"), temp(":a"), temp(strings.Repeat("a", api.MaxName+1)), {Kind: api.EntTemp, Name: "a", N: 1}, {Kind: api.EntTemp, Name: "a", V: num(1)}, {Kind: api.EntTemp, Name: "a", V: api.Value{S: "a"}},
		{Kind: api.EntLook}, look("", num(1)), look("A", num(1)), look("?x", num(1)), look("5", num(1)), look(strings.Repeat("a", api.MaxWord+1), num(1)), {Kind: api.EntLook, Name: "a", V: num(1), N: 1}, {Kind: api.EntLook, Name: "a", V: num(1), N: -1}, {Kind: api.EntLook, V: num(1)},
	}
	for _, v := range wrongValues() {
		l = append(l, look("a", v))
	}
	return l
}

func terms() []api.Term {
	var l []api.Term
	for _, x := range entities() {
		l = append(l, of(x))
	}
	for _, v := range values() {
		l = append(l, plain(v))
	}
	return l
}

func wrongTerms() []api.Term {
	l := []api.Term{
		{}, {IsEnt: true}, {IsEnt: true, V: num(1)}, {E: ent(1)}, {E: temp("a")}, {IsEnt: true, E: ent(1), V: num(1)}, {IsEnt: true, E: ent(1), V: api.Value{N: 1}}, {V: num(1), E: ent(1)}, {V: num(1), E: api.Entity{N: 1}}, {V: str("a"), E: api.Entity{Name: "a"}}, {V: num(1), E: api.Entity{V: num(1)}},
		// A reference is said as an entity.
		plain(api.Value{Kind: api.KRef}), plain(api.Value{Kind: api.KRef, N: 7}),
	}
	for _, x := range wrongEntities() {
		l = append(l, of(x))
	}
	for _, v := range wrongValues() {
		l = append(l, plain(v))
	}
	return l
}

func words() []string { return []string{"a", "user/name", "z0.9_-/", strings.Repeat("a", api.MaxWord)} }

func wrongWords() []string {
	return []string{"", "A", "5", "?a", "/", "a b", ":a", "a\n", "é", strings.Repeat("a", api.MaxWord+1)}
}

func spans() [][]int64 {
	return [][]int64{{api.MinTime, api.MaxTime}, {0, 1}, {5, 9}, {-1, 0}, {api.MinTime, api.MinTime + 1}, {api.MaxTime - 1, api.MaxTime}, {0, api.MaxTime}, {api.MinTime, 0}}
}

func wrongSpans() [][]int64 {
	return [][]int64{{0, 0}, {5, 5}, {9, 5}, {1, 0}, {0, -1}, {api.MaxTime, api.MinTime}, {api.MinTime, api.MinTime}, {api.MaxTime, api.MaxTime}}
}

// with are forms of an op, that each name one of each, or (where there is none) nothing.
func with(op int, entities []api.Entity, words []string, terms, olds []api.Term, spans [][]int64) []api.Form {
	var l []api.Form
	for _, x := range entities {
		for _, a := range words {
			for _, v := range terms {
				for _, old := range olds {
					for _, at := range spans {
						l = append(l, form(op, x, a, v, old, at...))
					}
				}
			}
		}
	}
	return l
}

var (
	noWord = []string{""}
	noTerm = []api.Term{{}}
)

// good are forms that may be: each op with each thing that it can name.
func good() []api.Form {
	fewEntities, fewTerms := entities()[5:8], []api.Term{plain(num(7)), of(ent(7)), of(temp("b"))}
	var l []api.Form
	for _, op := range []int{api.FormAdd, api.FormCut} {
		l = append(l, with(op, entities(), words()[:2], fewTerms, noTerm, spans()[:3])...)
		l = append(l, with(op, fewEntities, words(), terms(), noTerm, spans())...)
	}
	l = append(l, with(api.FormGone, entities(), noWord, noTerm, noTerm, spans())...)
	l = append(l, with(api.FormSwap, entities(), words(), fewTerms[:1], fewTerms, spans()[:2])...)
	l = append(l, with(api.FormSwap, fewEntities[:1], words()[:1], terms(), fewTerms, spans())...)
	return append(l, with(api.FormSwap, fewEntities[:1], words()[:1], fewTerms, terms(), spans())...)
}

// bad are forms that may not be: one thing of each is wrong.
func bad() []api.Form {
	x, a, v, at := entities()[:7], words(), []api.Term{plain(num(7)), of(temp("b"))}, spans()[:3]
	// some are terms, right and wrong, where none may stand.
	some := slices.DeleteFunc(append(wrongTerms(), v...), func(t api.Term) bool { return t == api.Term{} })
	var l []api.Form
	for _, op := range []int{api.FormAdd, api.FormCut} {
		l = append(l, with(op, wrongEntities(), a, v, noTerm, at)...)
		l = append(l, with(op, x, wrongWords(), v, noTerm, at)...)
		l = append(l, with(op, x, a, wrongTerms(), noTerm, at)...)
		l = append(l, with(op, x, a, v, some, at)...)
		l = append(l, with(op, x, a, v, noTerm, wrongSpans())...)
	}
	l = append(l, with(api.FormGone, wrongEntities(), noWord, noTerm, noTerm, at)...)
	l = append(l, with(api.FormGone, x, slices.Concat(a, wrongWords()[1:]), noTerm, noTerm, at)...)
	l = append(l, with(api.FormGone, x, noWord, some, noTerm, at)...)
	l = append(l, with(api.FormGone, x, noWord, noTerm, some, at)...)
	l = append(l, with(api.FormGone, x, noWord, noTerm, noTerm, wrongSpans())...)
	l = append(l, with(api.FormSwap, wrongEntities(), a, v, v, at)...)
	l = append(l, with(api.FormSwap, x, wrongWords(), v, v, at)...)
	l = append(l, with(api.FormSwap, x, a, wrongTerms(), v, at)...)
	l = append(l, with(api.FormSwap, x, a, v, wrongTerms(), at)...)
	l = append(l, with(api.FormSwap, x, a, v, v, wrongSpans())...)
	for _, op := range []int{-1, 0, 5, 1 << 32, 1<<32 + 1} {
		l = append(l, with(op, append(x, api.Entity{}), append(a, ""), append(v, api.Term{}), append(v, api.Term{}), append(at, []int64{0, 0}))...)
	}
	return append(l, api.Form{})
}

func TestCheck(t *testing.T) {
	for _, f := range good() {
		if e := Check(f); e != api.OK {
			t.Fatalf("Check(%v) = %v", f, e)
		}
	}
	for _, f := range bad() {
		if e := Check(f); e != api.ErrForm {
			t.Fatalf("Check(%v) = %v, want ErrForm", f, e)
		}
	}
}

// By the words of layer 5 this is a name, though as text it is an instant: the form may be, and has a node.
func TestNameLikeAnInstant(t *testing.T) {
	f := gone(temp("!-5"))
	n, e := Write(f)
	if back, b := Read(n); Check(f) != api.OK || e != api.OK || b != api.OK || back != f {
		t.Errorf("Write(%v) = %v, %v, Read of it %v, %v", f, n, e, back, b)
	}
}
