package schema

import (
	"slices"

	"daybook/api"
	"daybook/span"
)

// Holds says whether facts keep what their attributes ask.
func Holds(l []api.Fact) api.Errno {
	attrs, e := Of(l)
	if e != api.OK {
		return e
	}
	for _, r := range rows(l, attrs) {
		if r.broken() {
			return r.e
		}
	}
	return api.OK
}

// row is one of the table: its error, and whether it says that.
type row struct {
	e      api.Errno
	broken func() bool
}

// rows are the table's, but for the two that Of asks. Each takes for granted that none ahead of it is broken.
func rows(l []api.Fact, attrs []api.Attr) []row {
	byID := map[int64]api.Attr{}
	for _, a := range attrs {
		byID[a.ID] = a
	}
	isAttr := func(id int64) bool {
		_, is := byID[id]
		return is
	}
	some := func(wrong func(api.Fact) bool) bool { return slices.ContainsFunc(l, wrong) }
	return []row{
		{api.ErrAttr, func() bool {
			return some(func(f api.Fact) bool { return !isAttr(f.A) })
		}},
		{api.ErrType, func() bool {
			return some(func(f api.Fact) bool {
				return f.V.Kind != byID[f.A].Type || makesAttr(f) && !isAttr(f.E) || !inRange(f)
			})
		}},
		{api.ErrTwo, func() bool {
			single := func(f api.Fact) bool { return !byID[f.A].Many }
			return meet(stretches(l, single), byEntity, byAttribute)
		}},
		{api.ErrUnique, func() bool {
			unique := func(f api.Fact) bool { return byID[f.A].Unique > 0 }
			return meet(stretches(l, unique), byAttribute, byValue)
		}},
		{api.ErrWhole, func() bool {
			return some(func(f api.Fact) bool { return f.A < api.First && !isWhole(f.Spans) })
		}},
		{api.ErrPart, func() bool {
			return slices.ContainsFunc(attrs, func(a api.Attr) bool { return a.Part && a.Type != api.KRef })
		}},
	}
}

// makesAttr says whether a fact is of those by which a made entity wants to be an attribute.
func makesAttr(f api.Fact) bool {
	return f.E >= api.First && (f.A == api.AName || f.A == api.AType)
}

// inRange says whether a number is one that its built-in attribute has a meaning for.
func inRange(f api.Fact) bool {
	switch f.A {
	case api.AType:
		return 1 <= f.V.N && f.V.N <= lastType
	case api.AUnique:
		return 0 <= f.V.N && f.V.N <= lastUnique
	}
	return true
}

func isWhole(l []api.Span) bool {
	return span.Covers(l, []api.Span{{From: api.MinTime, To: api.MaxTime}})
}
