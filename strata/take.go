package strata

import (
	"slices"

	"daybook/api"
	"daybook/rule"
)

// list is clauses that are taken, each once, and what is bound meanwhile. What was taken stays so when more becomes bound around it: nothing is gone through anew then but the rest.
type list struct {
	vars  []string
	steps []*step
	left  int
	bound map[string]struct{}
}

// step is a clause in a list. It can be taken if all that it needs is bound, and each branch can be taken as a whole, with what it binds being bound then.
type step struct {
	needs, binds []string
	branches     []*list
	taken        bool
}

// newList is a list of clauses, none of which is taken.
func newList(l []api.Clause, bound, outside []string) *list {
	all := listOf(partsOf(l), outside)
	all.bind(bound)
	return all
}

// take takes what can be taken, each time the first one, and answers the places.
func (l *list) take() []int {
	var places []int
looking:
	for l.left > 0 {
		for at, s := range l.steps {
			if s.taken || !l.can(s) {
				continue
			}
			s.taken = true
			l.left--
			places = append(places, at)
			if l.bind(s.binds) {
				// Those ahead could not be taken by what was bound till now.
				continue looking
			}
		}
		break
	}
	return places
}

// can says whether a step can be taken.
func (l *list) can(s *step) bool {
	for len(s.needs) > 0 {
		if !l.has(s.needs[0]) {
			return false
		}
		s.needs = s.needs[1:]
	}
	for _, b := range s.branches {
		if !b.within(l) {
			return false
		}
		for _, v := range s.binds {
			if !b.has(v) && !l.has(v) {
				return false
			}
		}
	}
	return true
}

// within says whether all of a list can be taken, with what is bound in the one around it.
func (l *list) within(around *list) bool {
	if l.left == 0 {
		return true
	}
	for _, v := range l.vars {
		if around.has(v) {
			l.bound[v] = struct{}{}
		}
	}
	l.take()
	return l.left == 0
}

func (l *list) has(v string) bool {
	_, is := l.bound[v]
	return is
}

// bind binds variables, and says whether one of them was not bound.
func (l *list) bind(vars []string) bool {
	n := len(l.bound)
	for _, v := range vars {
		l.bound[v] = struct{}{}
	}
	return len(l.bound) > n
}

// part is a clause, with its variables.
type part struct {
	api.Clause
	vars []string
	kids []*part
}

// partsOf asks for each clause's variables once, whatever it stands within.
func partsOf(l []api.Clause) []*part {
	var parts []*part
	for _, c := range l {
		p := &part{Clause: c, kids: partsOf(c.Kids), vars: rule.Vars([]api.Clause{{Args: c.Args, Out: c.Out}})}
		p.vars = once(append(p.vars, varsOf(p.kids)...))
		parts = append(parts, p)
	}
	return parts
}

func varsOf(parts []*part) []string {
	var vars []string
	for _, p := range parts {
		vars = append(vars, p.vars...)
	}
	return once(vars)
}

// listOf is a list of parts, none of which is taken.
func listOf(parts []*part, outside []string) *list {
	had := map[string]int{}
	for _, v := range outside {
		had[v]++
	}
	for _, p := range parts {
		for _, v := range p.vars {
			had[v]++
		}
	}
	l := &list{vars: varsOf(parts), left: len(parts), bound: map[string]struct{}{}}
	for _, p := range parts {
		private := func(v string) bool { return had[v] < 2 }
		l.steps = append(l.steps, stepOf(p, slices.DeleteFunc(slices.Clone(p.vars), private)))
	}
	return l
}

// stepOf is the step of a part, which shares some variables.
func stepOf(p *part, shares []string) *step {
	switch p.Kind {
	case api.ClauseFact, api.ClauseCall:
		return &step{binds: p.vars}
	case api.ClauseTest:
		return &step{needs: p.vars}
	case api.ClauseDo:
		return &step{needs: rule.Vars([]api.Clause{{Args: p.Args}}), binds: rule.Vars([]api.Clause{{Out: p.Out}})}
	case api.ClauseNot:
		return &step{needs: shares, branches: []*list{listOf(p.kids, shares)}}
	case api.ClauseOr:
		s := &step{binds: shares}
		for _, k := range p.kids {
			s.branches = append(s.branches, branchOf(k, shares))
		}
		return s
	case api.ClauseAnd:
		return &step{binds: shares, branches: []*list{branchOf(p, shares)}}
	}
	return &step{}
}

// branchOf is the list that a kid of an or is.
func branchOf(p *part, shares []string) *list {
	if p.Kind == api.ClauseAnd {
		return listOf(p.kids, shares)
	}
	return listOf([]*part{p}, shares)
}
