package schema

import (
	"cmp"
	"slices"

	"daybook/api"
	"daybook/value"
)

// stretch is a fact at one of its spans.
type stretch struct {
	fact *api.Fact
	at   api.Span
}

// stretches are those of the facts that are wanted.
func stretches(l []api.Fact, wanted func(api.Fact) bool) []stretch {
	var all []stretch
	for i, f := range l {
		if !wanted(f) {
			continue
		}
		for _, s := range f.Spans {
			all = append(all, stretch{&l[i], s})
		}
	}
	return all
}

func byEntity(a, b stretch) int { return cmp.Compare(a.fact.E, b.fact.E) }

func byAttribute(a, b stretch) int { return cmp.Compare(a.fact.A, b.fact.A) }

func byValue(a, b stretch) int { return value.Compare(a.fact.V, b.fact.V) }

// meet says whether two facts that no part tells apart hold at one instant; it puts their stretches in order. Pairs of neighbours are enough, however many facts are alike: by rising From, if any two of these meet, two neighbours do; and those of one fact never do.
func meet(l []stretch, parts ...func(a, b stretch) int) bool {
	slices.SortFunc(l, func(a, b stretch) int {
		for _, part := range parts {
			if c := part(a, b); c != 0 {
				return c
			}
		}
		return cmp.Compare(a.at.From, b.at.From)
	})
pairs:
	for i := 1; i < len(l); i++ {
		a, b := l[i-1], l[i]
		for _, part := range parts {
			if part(a, b) != 0 {
				continue pairs
			}
		}
		if b.at.From < a.at.To {
			return true
		}
	}
	return false
}
