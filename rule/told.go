package rule

import (
	"iter"

	"daybook/api"
)

// told are clauses, and those within them, each ahead of what stands within it.
func told(l []api.Clause) iter.Seq[api.Clause] {
	return func(yield func(api.Clause) bool) { tell(l, yield) }
}

// tell yields clauses, and those within them, and answers whether more are asked for.
func tell(l []api.Clause, yield func(api.Clause) bool) bool {
	for _, c := range l {
		if !yield(c) || !tell(c.Kids, yield) {
			return false
		}
	}
	return true
}

// tooMany says whether a query's clauses alone have more nodes than a text takes. It counts no further than that, so that it ends even where clauses stand within themselves.
func tooMany(q api.Query) bool {
	lists := [][]api.Clause{q.Where}
	for _, r := range q.Rules {
		lists = append(lists, r.Body)
	}
	size := 0
counting:
	for _, l := range lists {
		for c := range told(l) {
			if size += 1 + len(c.Args); size > api.MaxNodes {
				break counting
			}
		}
	}
	return size > api.MaxNodes
}
