package span

import (
	"iter"

	"daybook/api"
)

// owner says which of two sets has a stretch of time.
type owner int

const (
	nobody owner = 0
	first  owner = 1
	second owner = 2
	both         = first | second
)

// told are the spans of two sets together: rising, cut wherever the owner turns; what nobody has is left out.
func told(a, b []api.Span) iter.Seq2[api.Span, owner] {
	return func(yield func(api.Span, owner) bool) {
		restA, restB := a, b
		from := int64(api.MinTime)
		for len(restA) > 0 || len(restB) > 0 {
			who := nobody
			if begun(restA, from) {
				who |= first
			}
			if begun(restB, from) {
				who |= second
			}
			to := min(turn(restA, from), turn(restB, from))
			if who != nobody && !yield(api.Span{From: from, To: to}, who) {
				return
			}
			restA, restB = behind(restA, to), behind(restB, to)
			from = to
		}
	}
}

// begun says whether the first span of a set has an instant; none of that set's spans may be at its end by then.
func begun(l []api.Span, at int64) bool { return len(l) > 0 && l[0].From <= at }

// turn is where a set's first span begins, or, if it has begun, ends.
func turn(l []api.Span, at int64) int64 {
	if len(l) == 0 {
		return api.MaxTime
	}
	if begun(l, at) {
		return l[0].To
	}
	return l[0].From
}

// behind is what is left of a set, once its first span may be at its end.
func behind(l []api.Span, at int64) []api.Span {
	if len(l) > 0 && l[0].To <= at {
		return l[1:]
	}
	return l
}
