package strata

import (
	"iter"
	"slices"

	"daybook/api"
)

// told are the calls in clauses, and within them, each with whether it stands within a not.
func told(l []api.Clause) iter.Seq2[api.Clause, bool] {
	return func(yield func(api.Clause, bool) bool) { tell(l, false, yield) }
}

// tell yields the calls in clauses, and within them, and answers whether more are asked for.
func tell(l []api.Clause, not bool, yield func(api.Clause, bool) bool) bool {
	for _, c := range l {
		if c.Kind == api.ClauseCall && !yield(c, not) {
			return false
		}
		if !tell(c.Kids, not || c.Kind == api.ClauseNot, yield) {
			return false
		}
	}
	return true
}

// copied is a clause in memory of its own.
func copied(c api.Clause) api.Clause {
	c.Args, c.Kids = slices.Clone(c.Args), slices.Clone(c.Kids)
	for i, k := range c.Kids {
		c.Kids[i] = copied(k)
	}
	return c
}

// level is the level of each rule's name, and whether all of them have one.
func level(rules []api.Rule) (map[string]int, bool) {
	levels := map[string]int{}
	for _, r := range rules {
		levels[r.Name] = 0
	}
	// A level follows from at most as many others as there are names; where it still rises then, it rises for ever.
	for range len(levels) + 1 {
		if !rise(levels, rules) {
			return levels, true
		}
	}
	return nil, false
}

// rise lifts levels that are too low for what rules hang on, and says whether there were any.
func rise(levels map[string]int, rules []api.Rule) bool {
	risen := false
	for _, r := range rules {
		for c, not := range told(r.Body) {
			least := levels[c.Name]
			if not {
				least++
			}
			if levels[r.Name] < least {
				levels[r.Name] = least
				risen = true
			}
		}
	}
	return risen
}
