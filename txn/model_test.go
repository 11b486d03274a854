package txn

import (
	"slices"

	"daybook/api"
	"daybook/facts"
	"daybook/schema"
)

// bounds are where drawn spans begin and end: between two of them all instants are alike, a cell.
func bounds() []int64 { return []int64{never, 0, 1, 2, 3, ever} }

// cells is a set of cells, a bit each.
type cells uint

const allCells = 1<<5 - 1

func cellsOf(l ...api.Span) cells {
	var c cells
	for _, s := range l {
		for i, from := range bounds()[:5] {
			if s.From <= from && from < s.To {
				c |= 1 << i
			}
		}
	}
	return c
}

// spans are the stretches of cells that have some.
func (c cells) spans() []api.Span {
	var l []api.Span
	for i, from := range bounds()[:5] {
		switch to := bounds()[i+1]; {
		case c>>i&1 == 0:
		case len(l) > 0 && l[len(l)-1].To == from:
			l[len(l)-1].To = to
		default:
			l = append(l, api.Span{From: from, To: to})
		}
	}
	return l
}

// world is a list of what holds, in no order.
type world []held

type held struct {
	e, a int64
	v    api.Value
	at   cells
}

func worldOf(l []api.Fact) world {
	var w world
	for _, f := range l {
		w = append(w, held{f.E, f.A, f.V, cellsOf(f.Spans...)})
	}
	return w
}

func (w world) facts() []api.Fact {
	var l []api.Fact
	for _, h := range w {
		if h.at != 0 {
			l = append(l, api.Fact{E: h.e, A: h.a, V: h.v, Spans: h.at.spans()})
		}
	}
	return inOrder(l)
}

func (w world) at(e, a int64, v api.Value) cells {
	for _, h := range w {
		if h.e == e && h.a == a && h.v == v {
			return h.at
		}
	}
	return 0
}

// model answers what the chapter's words ask, form by form, cell by cell.
type model struct {
	base  api.Base
	world world
	attrs []api.Attr
	forms []api.Form
	names []string
	next  int64
}

func (m *model) attr(name string) (api.Attr, bool) { return schema.ByName(m.attrs, name) }

func (m *model) byID(id int64) api.Attr {
	a, _ := schema.ByID(m.attrs, id)
	return a
}

// having are the entities that have a value throughout a form.
func (m *model) having(name string, v api.Value, f api.Form) []int64 {
	a, _ := m.attr(name)
	at := cellsOf(api.Span{From: f.From, To: f.To})
	var l []int64
	for _, h := range m.world {
		if h.a == a.ID && h.v == v && h.at&at == at {
			l = append(l, h.e)
		}
	}
	return l
}

// terms are told with their forms.
func (m *model) terms(tell func(f api.Form, x api.Term)) {
	for _, f := range m.forms {
		if f.Op == api.FormSwap {
			tell(f, f.Old)
		}
		if f.Op != api.FormGone {
			tell(f, f.V)
		}
	}
}

// entities are told with their forms, and with whether they are E.
func (m *model) entities(tell func(f api.Form, x api.Entity, isE bool)) {
	for _, f := range m.forms {
		tell(f, f.E, true)
	}
	m.terms(func(f api.Form, x api.Term) {
		if x.IsEnt {
			tell(f, x.E, false)
		}
	})
}

func (m *model) candidates(name string) []int64 {
	var l []int64
	for _, f := range m.forms {
		if a, _ := m.attr(f.A); f.Op == api.FormAdd && f.E.Kind == api.EntTemp && f.E.Name == name && a.Unique == 2 && !f.V.IsEnt {
			l = append(l, m.having(f.A, f.V.V, f)...)
		}
	}
	slices.Sort(l)
	return slices.Compact(l)
}

// fresh are the names without a candidate, rising.
func (m *model) fresh() []string {
	var l []string
	for _, name := range m.names {
		if len(m.candidates(name)) == 0 {
			l = append(l, name)
		}
	}
	return l
}

func (m *model) who(x api.Entity, f api.Form) int64 {
	switch x.Kind {
	case api.EntNumber:
		return x.N
	case api.EntLook:
		return m.having(x.Name, x.V, f)[0]
	}
	if l := m.candidates(x.Name); len(l) > 0 {
		return l[0]
	}
	return m.base.Next + int64(slices.Index(m.fresh(), x.Name))
}

func (m *model) value(x api.Term, f api.Form) api.Value {
	if x.IsEnt {
		return ref(m.who(x.E, f))
	}
	return x.V
}

// family is an entity's, found by going round till nobody comes in any more.
func (m *model) family(e int64, at cells) []int64 {
	in := []int64{e}
	for again := true; again; {
		again = false
		for _, h := range m.world {
			if m.byID(h.a).Part && h.at&at != 0 && slices.Contains(in, h.e) && !slices.Contains(in, h.v.N) {
				in = append(in, h.v.N)
				again = true
			}
		}
	}
	return in
}

// error is the first row's, but for layer 7's and ErrClash.
func (m *model) error() api.Errno {
	broken := map[api.Errno]bool{}
	for _, f := range m.forms {
		a, is := m.attr(f.A)
		broken[api.ErrForm] = broken[api.ErrForm] || f.Op < 1 || f.Op > 4 || f.From >= f.To
		broken[api.ErrNoAttr] = broken[api.ErrNoAttr] || f.Op != api.FormGone && !is
		whole := f.From == never && f.To == ever
		broken[api.ErrStretch] = broken[api.ErrStretch] || !whole && (f.Op == api.FormGone || a.ID < 10)
		broken[api.ErrStays] = broken[api.ErrStays] || f.Op == api.FormCut && (f.A == "db/name" || f.A == "db/type")
	}
	m.entities(func(f api.Form, x api.Entity, isE bool) {
		switch x.Kind {
		case api.EntNumber:
			broken[api.ErrEntity] = broken[api.ErrEntity] || x.N >= m.base.Next || isE && x.N < 10
		case api.EntTemp:
			broken[api.ErrForm] = broken[api.ErrForm] || x.Name == ""
			broken[api.ErrTwin] = broken[api.ErrTwin] || len(m.candidates(x.Name)) > 1
		case api.EntLook:
			a, is := m.attr(x.Name)
			l := m.having(x.Name, x.V, f)
			broken[api.ErrForm] = broken[api.ErrForm] || x.V.Kind == 0
			broken[api.ErrNoAttr] = broken[api.ErrNoAttr] || !is
			broken[api.ErrLookup] = broken[api.ErrLookup] || a.Unique != 2 || len(l) != 1 || isE && l[0] < 10
		default:
			broken[api.ErrForm] = true
		}
	})
	m.terms(func(f api.Form, x api.Term) {
		a, _ := m.attr(f.A)
		if x.IsEnt {
			broken[api.ErrWrong] = broken[api.ErrWrong] || a.Type != api.KRef
			return
		}
		broken[api.ErrForm] = broken[api.ErrForm] || x.V.Kind == 0
		broken[api.ErrEntity] = broken[api.ErrEntity] || x.V.Kind == api.KRef && x.V.N >= m.next
		broken[api.ErrWrong] = broken[api.ErrWrong] || x.V.Kind != a.Type
	})
	for e := api.ErrForm; e <= api.ErrStretch; e++ {
		if broken[e] {
			return e
		}
	}
	return m.lateError(broken[api.ErrStays])
}

// lateError is of the rows that ask who is meant.
func (m *model) lateError(stays bool) api.Errno {
	swaps := false
	for _, f := range m.forms {
		e := m.who(f.E, f)
		if f.Op == api.FormGone {
			for _, a := range m.attrs {
				stays = stays || slices.Contains(m.family(e, allCells), a.ID)
			}
		}
		if a, _ := m.attr(f.A); f.Op == api.FormSwap {
			at := cellsOf(api.Span{From: f.From, To: f.To})
			swaps = swaps || m.world.at(e, a.ID, m.value(f.Old, f))&at != at
		}
	}
	switch {
	case stays:
		return api.ErrStays
	case swaps:
		return api.ErrSwap
	}
	return api.OK
}

// said are what forms add, and what they cut.
func (m *model) said() (adds, cuts world) {
	for _, f := range m.forms {
		a, _ := m.attr(f.A)
		e, at := m.who(f.E, f), cellsOf(api.Span{From: f.From, To: f.To})
		switch f.Op {
		case api.FormAdd:
			adds = append(adds, held{e, a.ID, m.value(f.V, f), at})
		case api.FormCut:
			cuts = append(cuts, held{e, a.ID, m.value(f.V, f), at})
		case api.FormSwap:
			if old, v := m.value(f.Old, f), m.value(f.V, f); old != v {
				adds, cuts = append(adds, held{e, a.ID, v, at}), append(cuts, held{e, a.ID, old, at})
			}
		case api.FormGone:
			in := m.family(e, at)
			for _, h := range m.world {
				if slices.Contains(in, h.e) || h.v.Kind == api.KRef && slices.Contains(in, h.v.N) {
					cuts = append(cuts, held{h.e, h.a, h.v, at})
				}
			}
		}
	}
	return adds, cuts
}

func (m *model) clash(adds, cuts world) bool {
	for _, x := range adds {
		for _, y := range cuts {
			if x.e == y.e && x.a == y.a && x.v == y.v && x.at&y.at != 0 {
				return true
			}
		}
		for _, y := range adds {
			if x.e == y.e && x.a == y.a && x.v != y.v && x.at&y.at != 0 && !m.byID(x.a).Many {
				return true
			}
		}
	}
	return false
}

func (m *model) behind(adds, cuts world) world {
	now := slices.Clone(m.world)
	for i := range now {
		h := &now[i]
		for _, y := range cuts {
			if h.e == y.e && h.a == y.a && h.v == y.v {
				h.at &^= y.at
			}
		}
		for _, y := range adds {
			if h.e == y.e && h.a == y.a && h.v != y.v && !m.byID(h.a).Many {
				h.at &^= y.at
			}
		}
	}
	for _, y := range adds {
		i := slices.IndexFunc(now, func(h held) bool { return h.e == y.e && h.a == y.a && h.v == y.v })
		if i < 0 {
			now = append(now, y)
			continue
		}
		now[i].at |= y.at
	}
	return now
}

// modelApply is Apply of a base that may be.
func modelApply(b api.Base, l []api.Form) (api.Base, []api.Datom, []api.Temp, api.Errno) {
	m := &model{base: b, world: worldOf(b.Facts), forms: l}
	m.attrs, _ = schema.Of(b.Facts)
	m.entities(func(_ api.Form, x api.Entity, _ bool) {
		if x.Kind == api.EntTemp {
			m.names = append(m.names, x.Name)
		}
	})
	slices.Sort(m.names)
	m.names = slices.Compact(m.names)
	m.next = b.Next + int64(len(m.fresh()))
	if e := m.error(); e != api.OK {
		return api.Base{}, nil, nil, e
	}
	adds, cuts := m.said()
	if m.clash(adds, cuts) {
		return api.Base{}, nil, nil, api.ErrClash
	}
	now := api.Base{Facts: m.behind(adds, cuts).facts(), Next: m.next, T: b.T + 1}
	if e := schema.Holds(now.Facts); e != api.OK {
		return api.Base{}, nil, nil, e
	}
	attrs, _ := schema.Of(now.Facts)
	if e := schema.Alter(m.attrs, attrs); e != api.OK {
		return api.Base{}, nil, nil, e
	}
	changes, _ := facts.Changes(b.Facts, now.Facts, now.T)
	var temps []api.Temp
	for _, name := range m.names {
		temps = append(temps, api.Temp{Name: name, E: m.who(temp(name), api.Form{})})
	}
	return now, changes, temps, api.OK
}
