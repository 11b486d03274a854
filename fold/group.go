package fold

import (
	"iter"
	"slices"

	"daybook/api"
	"daybook/rows"
	"daybook/value"
)

// places are where columns stand in a relation; false, unless it may be, and has each of them, and each is there once.
func places(r rows.Rel, by []string) ([]int, bool) {
	if !rows.May(r) {
		return nil, false
	}
	var at []int
	for _, c := range by {
		i := slices.Index(r.Cols, c)
		if i < 0 || slices.Contains(at, i) {
			return nil, false
		}
		at = append(at, i)
	}
	return at, true
}

// groups are the rows that have the same values at some places, in the order of these values; those of one stand as they stood.
func groups(l []api.Row, at []int) iter.Seq[[]api.Row] {
	return func(yield func([]api.Row) bool) {
		l, first := inOrder(l, at), 0
	going:
		for i, x := range l {
			for _, c := range at {
				if x[c] == l[first][c] {
					continue
				}
				if !yield(l[first:i]) {
					return
				}
				first = i
				continue going
			}
		}
		if first < len(l) {
			yield(l[first:])
		}
	}
}

// inOrder are rows in the order of their values at some places; where these are the same, as they stood.
func inOrder(l []api.Row, at []int) []api.Row {
	sorted := slices.Clone(l)
	slices.SortStableFunc(sorted, func(x, y api.Row) int {
		for _, c := range at {
			if stands := value.Compare(x[c], y[c]); stands != 0 {
				return stands
			}
		}
		return 0
	})
	return sorted
}
