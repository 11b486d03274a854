package txn

import (
	"slices"

	"daybook/api"
	"daybook/span"
)

// row is one of the table: its error, and whether it says that.
type row struct {
	e      api.Errno
	broken func() bool
}

// rows are the table's, but for layer 7's. Each takes for granted that none ahead of it is broken.
func (t *trial) rows() []row {
	return []row{
		{api.ErrForm, t.saysNone},
		{api.ErrNoAttr, t.namesNoAttr},
		{api.ErrEntity, t.namesNoEntity},
		{api.ErrLookup, t.looksForNone},
		{api.ErrTwin, t.meansTwo},
		{api.ErrWrong, t.saysWrongType},
		{api.ErrStretch, t.saysPartOfTime},
		{api.ErrStays, t.takesWhatStays},
		{api.ErrSwap, t.swapsWhatIsNot},
		{api.ErrClash, t.clashes},
	}
}

func (t *trial) some(wrong func(api.Form) bool) bool { return slices.ContainsFunc(t.forms, wrong) }

func (t *trial) saysNone() bool {
	return t.some(func(f api.Form) bool { return !formMayBe(f) })
}

func (t *trial) namesNoAttr() bool {
	return t.some(func(f api.Form) bool {
		if f.Op != api.FormGone && !t.isAttr(f.A) {
			return true
		}
		for x := range entitiesOf(f) {
			if x.Kind == api.EntLook && !t.isAttr(x.Name) {
				return true
			}
		}
		return false
	})
}

func (t *trial) isAttr(name string) bool {
	_, is := t.named[name]
	return is
}

func (t *trial) namesNoEntity() bool {
	return t.next > api.MaxEntity || t.some(func(f api.Form) bool {
		for x, isE := range entitiesOf(f) {
			if x.Kind == api.EntNumber && (x.N >= t.base.Next || isE && x.N < api.First) {
				return true
			}
		}
		return slices.ContainsFunc(termsOf(f), func(x api.Term) bool {
			return !x.IsEnt && x.V.Kind == api.KRef && x.V.N >= t.next
		})
	})
}

func (t *trial) looksForNone() bool {
	return t.some(func(f api.Form) bool {
		for x, isE := range entitiesOf(f) {
			if x.Kind != api.EntLook {
				continue
			}
			if e, is := t.meant(x, spanOf(f)); !is || isE && e < api.First {
				return true
			}
		}
		return false
	})
}

func (t *trial) meansTwo() bool { return t.twin }

func (t *trial) saysWrongType() bool {
	return t.some(func(f api.Form) bool {
		kind := t.named[f.A].Type
		return slices.ContainsFunc(termsOf(f), func(x api.Term) bool {
			if x.IsEnt {
				return kind != api.KRef
			}
			return kind != x.V.Kind
		})
	})
}

func (t *trial) saysPartOfTime() bool {
	return t.some(func(f api.Form) bool {
		return (f.Op == api.FormGone || t.named[f.A].ID < api.First) && spanOf(f) != whole()
	})
}

func (t *trial) takesWhatStays() bool {
	family := t.family()
	for id := range t.byID {
		if _, goes := family[id]; goes {
			return true
		}
	}
	return t.some(func(f api.Form) bool {
		id := t.named[f.A].ID
		return f.Op == api.FormCut && (id == api.AName || id == api.AType)
	})
}

func (t *trial) swapsWhatIsNot() bool {
	for m := range t.meanings() {
		if m.op == api.FormSwap && !t.hasThroughout(m.of(m.old), m.at) {
			return true
		}
	}
	return false
}

func (t *trial) hasThroughout(p triple, at api.Span) bool {
	i, is := t.find(p)
	return is && span.Covers(t.base.Facts[i].Spans, []api.Span{at})
}
