package claim

import (
	"daybook/api"
	"daybook/text"
	"daybook/value"
)

// Check says whether a form may be.
func Check(f api.Form) api.Errno {
	if !mayBe(f) {
		return api.ErrForm
	}
	return api.OK
}

func mayBe(f api.Form) bool {
	if f.From >= f.To || !entityMayBe(f.E) {
		return false
	}
	switch f.Op {
	case api.FormAdd, api.FormCut:
		return isWord(f.A) && termMayBe(f.V) && f.Old == api.Term{}
	case api.FormGone:
		return f == api.Form{Op: f.Op, E: f.E, From: f.From, To: f.To}
	case api.FormSwap:
		return isWord(f.A) && termMayBe(f.V) && termMayBe(f.Old)
	}
	return false
}

func entityMayBe(x api.Entity) bool {
	switch x.Kind {
	case api.EntNumber:
		return isValue(refTo(x.N)) && x == api.Entity{Kind: x.Kind, N: x.N}
	case api.EntTemp:
		return text.Named(x.Name) && x == api.Entity{Kind: x.Kind, Name: x.Name}
	case api.EntLook:
		return isWord(x.Name) && isValue(x.V) && x.N == 0
	}
	return false
}

func termMayBe(t api.Term) bool {
	if t.IsEnt {
		return entityMayBe(t.E) && t.V == api.Value{}
	}
	return isValue(t.V) && t.V.Kind != api.KRef && t.E == api.Entity{}
}

func isValue(v api.Value) bool { return value.Check(v) == api.OK }

func isWord(s string) bool { return isValue(wordOf(s)) }

func wordOf(s string) api.Value { return api.Value{Kind: api.KWord, S: s} }

func refTo(n int64) api.Value { return api.Value{Kind: api.KRef, N: n} }

func timeOf(n int64) api.Value { return api.Value{Kind: api.KTime, N: n} }
