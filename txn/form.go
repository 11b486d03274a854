package txn

import (
	"iter"

	"daybook/api"
	"daybook/value"
)

// termsOf are a form's terms. A gone has none: it names neither V nor Old.
func termsOf(f api.Form) []api.Term {
	switch f.Op {
	case api.FormGone:
		return nil
	case api.FormSwap:
		return []api.Term{f.V, f.Old}
	}
	return []api.Term{f.V}
}

// entitiesOf are a form's entities, each with whether it is the form's E; the others are terms.
func entitiesOf(f api.Form) iter.Seq2[api.Entity, bool] {
	return func(yield func(api.Entity, bool) bool) {
		if !yield(f.E, true) {
			return
		}
		for _, x := range termsOf(f) {
			if x.IsEnt && !yield(x.E, false) {
				return
			}
		}
	}
}

func formMayBe(f api.Form) bool {
	if f.Op < api.FormAdd || f.Op > api.FormSwap || f.From >= f.To {
		return false
	}
	for x := range entitiesOf(f) {
		if !entityMayBe(x) {
			return false
		}
	}
	for _, x := range termsOf(f) {
		if !x.IsEnt && !isValue(x.V) {
			return false
		}
	}
	return true
}

func entityMayBe(x api.Entity) bool {
	switch x.Kind {
	case api.EntNumber:
		return true
	case api.EntTemp:
		return 1 <= len(x.Name) && len(x.Name) <= api.MaxWord
	case api.EntLook:
		return isValue(x.V)
	}
	return false
}

func isValue(v api.Value) bool { return value.Check(v) == api.OK }

func spanOf(f api.Form) api.Span { return api.Span{From: f.From, To: f.To} }

// whole is the span that has all instants.
func whole() api.Span { return api.Span{From: api.MinTime, To: api.MaxTime} }
