package calc

import (
	"slices"
	"testing"

	"daybook/api"
)

// ones are so many values that each name takes at least without an error.
func ones(n int) []api.Value { return slices.Repeat([]api.Value{number(1)}, n) }

// A name with other values than it takes, of the other sort, or of none, is ErrCalc, whether the values may be or not.
func TestErrCalc(t *testing.T) {
	wrong := api.Value{Kind: 9}
	for n := range 6 {
		lists := [][]api.Value{ones(n), slices.Repeat([]api.Value{wrong}, n)}
		if n == 0 {
			lists = append(lists, nil)
		}
		for _, l := range lists {
			for name, takes := range predicates {
				expectDo(t, name, l, api.Value{}, false, api.ErrCalc)
				if n != takes {
					expectTest(t, name, l, false, api.ErrCalc)
				}
			}
			for name, takes := range functions {
				expectTest(t, name, l, false, api.ErrCalc)
				if n != takes {
					expectDo(t, name, l, api.Value{}, false, api.ErrCalc)
				}
			}
			for _, name := range strangers() {
				expectTest(t, name, l, false, api.ErrCalc)
				expectDo(t, name, l, api.Value{}, false, api.ErrCalc)
			}
		}
	}
	many := ones(100000)
	for _, name := range Names() {
		expectTest(t, name, many, false, api.ErrCalc)
		expectDo(t, name, many, api.Value{}, false, api.ErrCalc)
	}
}

// One value that may not be, at whichever place, is ErrKind, also where the function would answer none.
func TestErrKind(t *testing.T) {
	for _, wrong := range refused() {
		for _, right := range list(`1 true "a" #61 @7 !5 :a`) {
			for name, takes := range predicates {
				for at := range takes {
					l := slices.Repeat([]api.Value{right}, takes)
					l[at] = wrong
					expectTest(t, name, l, false, api.ErrKind)
				}
			}
			for name, takes := range functions {
				for at := range takes {
					l := slices.Repeat([]api.Value{right}, takes)
					l[at] = wrong
					expectDo(t, name, l, api.Value{}, false, api.ErrKind)
				}
			}
		}
	}
}

func TestErrorsOfTheChapter(t *testing.T) {
	expectDo(t, "<", list("1 2"), api.Value{}, false, api.ErrCalc)
	expectTest(t, "+", list("1 2"), false, api.ErrCalc)
	expectDo(t, "+", list("1"), api.Value{}, false, api.ErrCalc)
	expectDo(t, "+", []api.Value{number(1), {Kind: 9}}, api.Value{}, false, api.ErrKind)
}
