package txn

import (
	"math/rand"
	"slices"
	"testing"

	"daybook/api"
	"daybook/facts"
	"daybook/schema"
)

// drawing draws bases and forms.
type drawing struct{ *rand.Rand }

func (r drawing) seldom(n int) bool { return r.Intn(n) == 0 }

func pick[T any](r drawing, l ...T) T { return l[r.Intn(len(l))] }

// kinds are those of the values of the bases' attributes.
func kinds() map[string]int {
	return map[string]int{"age": api.KInt, "mail": api.KText, "friend": api.KRef, "child": api.KRef, "tag": api.KWord, "code": api.KInt, "boss": api.KRef, "twin": api.KRef, "alias": api.KText}
}

// attrNames are their names, in the order of people.
func attrNames() []string {
	return []string{"age", "mail", "friend", "child", "tag", "code", "boss", "twin", "alias"}
}

func (r drawing) value(kind int) api.Value {
	switch kind {
	case api.KInt:
		return number(int64(r.Intn(3)))
	case api.KText:
		return text(pick(r, "m", "n"))
	case api.KWord:
		return word(pick(r, "age", "red", "blue"))
	case api.KBool:
		return truth(int64(r.Intn(2)))
	}
	if r.seldom(30) {
		return ref(int64(r.Intn(30)))
	}
	return ref(20 + int64(r.Intn(5)))
}

// at is from where to where.
func (r drawing) at() []int64 {
	l := bounds()
	i := r.Intn(len(l) - 1)
	return []int64{l[i], l[i+1+r.Intn(len(l)-1-i)]}
}

// base is one of facts that go together.
func (r drawing) base() api.Base {
	b := people()
	b.T = 1 + int64(r.Intn(5))
	w := worldOf(b.Facts)
	for range r.Intn(25) {
		name := pick(r, attrNames()...)
		id := 10 + int64(slices.Index(attrNames(), name))
		h := held{20 + int64(r.Intn(5)), id, r.value(kinds()[name]), cells(1 + r.Intn(allCells))}
		if r.seldom(3) {
			h.at = allCells
		}
		if r.seldom(30) {
			h.e = int64(r.Intn(12))
		}
		if w.at(h.e, h.a, h.v) != 0 || h.v.Kind == api.KRef && h.v.N >= b.Next {
			continue
		}
		if more := append(slices.Clone(w), h); schema.Holds(more.facts()) == api.OK {
			w = more
		}
	}
	b.Facts = w.facts()
	return b
}

func (r drawing) entity(b api.Base, isE bool) api.Entity {
	switch n := r.Intn(40); {
	case n == 0:
		return ent(int64(r.Intn(28)))
	case n == 1:
		return api.Entity{Kind: r.Intn(5), N: 20, Name: "x", V: text("m")}
	case n == 2:
		return look(pick(r, append(attrNames(), "none", "db/name")...), r.value(1+r.Intn(7)))
	case n < 20:
		return ent(20 + int64(r.Intn(5)))
	case n < 30:
		return temp(pick(r, "x", "y", "z", "x", "y", "z", "Z", ""))
	}
	return r.looked(b)
}

// looked is an entity by a value that one has.
func (r drawing) looked(b api.Base) api.Entity {
	var own []api.Fact
	for _, f := range b.Facts {
		if f.A == 11 || f.A == 17 || f.A == 18 {
			own = append(own, f)
		}
	}
	if len(own) == 0 {
		return look("db/name", word("age"))
	}
	f := pick(r, own...)
	return look(attrNames()[f.A-10], f.V)
}

func (r drawing) term(b api.Base, kind int) api.Term {
	if kind == api.KRef && r.seldom(2) || r.seldom(60) {
		return of(r.entity(b, false))
	}
	if r.seldom(60) {
		kind = r.Intn(8)
	}
	if kind == 0 {
		return api.Term{}
	}
	return plain(r.value(kind))
}

func (r drawing) form(b api.Base) api.Form {
	at := []int64{never, ever}
	if !r.seldom(3) {
		at = r.at()
	}
	name := pick(r, attrNames()...)
	kind := kinds()[name]
	switch n := r.Intn(60); {
	case n == 0:
		name = "none"
	case n == 1:
		at = []int64{at[1], at[0]}
	case n == 2:
		return api.Form{Op: r.Intn(7) - 1, E: r.entity(b, true), A: name, V: r.term(b, kind), Old: r.term(b, kind), From: at[0], To: at[1]}
	case n < 8:
		return r.ofBuiltin(b)
	case n < 12:
		if r.seldom(5) {
			return gone(r.entity(b, true), at...)
		}
		return gone(r.entity(b, true))
	case n < 22:
		return cut(r.entity(b, true), name, r.term(b, kind), at...)
	case n < 32:
		return r.swap(b)
	case n < 38:
		if x := r.looked(b); x.Name != "db/name" {
			return add(temp(pick(r, "x", "y")), x.Name, plain(x.V), at...)
		}
	}
	return add(r.entity(b, true), name, r.term(b, kind), at...)
}

// ofBuiltin is a form of an attribute that is built in.
func (r drawing) ofBuiltin(b api.Base) api.Form {
	e := ent(10 + int64(r.Intn(9)))
	if r.seldom(4) {
		e = temp("x")
	}
	name := pick(r, "db/name", "db/type", "db/many", "db/unique", "db/part", "db/index", "db/doc")
	kind := map[string]int{"db/name": api.KWord, "db/type": api.KInt, "db/many": api.KBool, "db/unique": api.KInt, "db/part": api.KBool, "db/index": api.KBool, "db/doc": api.KText}[name]
	f := add(e, name, plain(r.value(kind)))
	if r.seldom(3) {
		f.Op = api.FormCut
	}
	if r.seldom(15) {
		f.From = 0
	}
	return f
}

// swap is mostly of what holds.
func (r drawing) swap(b api.Base) api.Form {
	f := pick(r, b.Facts...)
	a, _ := schema.ByID(func() []api.Attr { l, _ := schema.Of(b.Facts); return l }(), f.A)
	s := pick(r, f.Spans...)
	old := plain(f.V)
	if f.V.Kind == api.KRef && r.seldom(2) {
		old = of(ent(f.V.N))
	}
	if r.seldom(10) {
		old = r.term(b, a.Type)
	}
	at := []int64{s.From, s.To}
	if r.seldom(4) {
		at = r.at()
	}
	return swap(ent(f.E), a.Name, old, r.term(b, a.Type), at...)
}

func TestApplyDrawn(t *testing.T) {
	r := drawing{rand.New(rand.NewSource(1))}
	told := map[api.Errno]int{}
	changed := 0
	for range 2000 {
		b := r.base()
		if e := Check(b); e != api.OK {
			t.Fatalf("Check(%v) = %v", b, e)
		}
		for range 16 {
			l := make([]api.Form, r.Intn(5))
			for i := range l {
				l[i] = r.form(b)
			}
			want, wantChanges, wantTemps, wantErr := modelApply(b, l)
			now, changes, temps, e := Apply(b, l)
			if e != wantErr || !sameBase(now, want) || !slices.Equal(changes, wantChanges) || !slices.Equal(temps, wantTemps) {
				t.Fatalf("Apply(%v, %v) = %v, %v, %v, %v, want %v, %v, %v, %v", b, l, now, changes, temps, e, want, wantChanges, wantTemps, wantErr)
			}
			told[e]++
			if e == api.OK {
				if len(changes) > 0 {
					changed++
				}
				followsFrom(t, b, l, now, changes)
				b = now
			}
		}
	}
	for _, e := range []api.Errno{api.OK, 90, 91, 92, 93, 94, 95, 96, 97, 98, 99, api.ErrTwo, api.ErrUnique, api.ErrType, api.ErrPart, api.ErrAlter, api.ErrSchema} {
		if told[e] < 10 {
			t.Errorf("error %d was drawn %d times", e, told[e])
		}
	}
	if changed < 2000 {
		t.Errorf("%d transactions changed something", changed)
	}
}

// followsFrom asks for what is promised of an answer.
func followsFrom(t *testing.T, b api.Base, l []api.Form, now api.Base, changes []api.Datom) {
	if e := Check(now); e != api.OK {
		t.Fatalf("Apply(%v, %v) = %v, which may not be", b, l, now)
	}
	ahead, _ := facts.Changes(nil, b.Facts, b.T)
	if folded, e := facts.Fold(append(ahead, changes...)); e != api.OK || !sameFacts(folded, now.Facts) {
		t.Fatalf("Apply(%v, %v): its changes %v are folded to %v, %v, not to %v", b, l, changes, folded, e, now.Facts)
	}
	mixed := append(slices.Clone(l), l...)
	rand.New(rand.NewSource(int64(len(l)))).Shuffle(len(mixed), func(i, j int) { mixed[i], mixed[j] = mixed[j], mixed[i] })
	if again, _, _, e := Apply(b, mixed); e != api.OK || !sameBase(again, now) {
		t.Fatalf("Apply(%v, %v) = %v, %v, but in another order %v", b, mixed, again, e, now)
	}
}

// copied is a base of memory of its own.
func copied(b api.Base) api.Base {
	b.Facts = slices.Clone(b.Facts)
	for i := range b.Facts {
		b.Facts[i].Spans = slices.Clone(b.Facts[i].Spans)
	}
	return b
}

// filled puts something else wherever an answer's lists have room.
func filled(b api.Base, changes []api.Datom, temps []api.Temp) {
	for _, f := range b.Facts {
		all := f.Spans[:cap(f.Spans)]
		for i := range all {
			all[i] = api.Span{From: 77, To: 77}
		}
	}
	clear(b.Facts[:cap(b.Facts)])
	clear(changes[:cap(changes)])
	clear(temps[:cap(temps)])
}

func TestWhatIsHandedInStays(t *testing.T) {
	r := drawing{rand.New(rand.NewSource(2))}
	changed := 0
	for range 1000 {
		b := r.base()
		l := make([]api.Form, 1+r.Intn(3), 5)
		for i := range l {
			l[i] = r.form(b)
		}
		// Lists have room behind their ends, in which something stands.
		rest := append(b.Facts, b.Facts[0])
		b.Facts = rest[:len(b.Facts)]
		for i := range b.Facts {
			spans := append(b.Facts[i].Spans, api.Span{From: 5, To: 4})
			b.Facts[i].Spans = spans[:len(spans)-1]
		}
		kept, keptForms := copied(api.Base{Facts: rest}), slices.Clone(l[:cap(l)])
		same := func() bool {
			for _, f := range b.Facts {
				if behind := f.Spans[:len(f.Spans)+1]; behind[len(f.Spans)] != (api.Span{From: 5, To: 4}) {
					return false
				}
			}
			return sameFacts(rest, kept.Facts) && slices.Equal(l[:cap(l)], keptForms)
		}
		Check(b)
		Names(l)
		now, changes, temps, e := Apply(b, l)
		if !same() {
			t.Fatalf("Apply turned what it was given to %v, %v", b, l)
		}
		if e != api.OK {
			continue
		}
		changed += len(changes)
		// No two lists of an answer share memory: what is written behind one's end, or into it, is in no other one.
		for i := range now.Facts {
			own := copied(now)
			own.Facts[i].Spans[0].From--
			now.Facts[i].Spans[0].From--
			_ = append(now.Facts[i].Spans, api.Span{From: 3, To: 3})
			if !sameFacts(now.Facts, own.Facts) {
				t.Fatalf("the spans of %v are others' too", now.Facts[i])
			}
			now.Facts[i].Spans[0].From++
		}
		wantNow, wantChanges, wantTemps := copied(now), slices.Clone(changes), slices.Clone(temps)
		filled(now, changes, temps)
		again, changesAgain, tempsAgain, _ := Apply(b, l)
		if !same() || !sameBase(again, wantNow) || !slices.Equal(changesAgain, wantChanges) || !slices.Equal(tempsAgain, wantTemps) {
			t.Fatalf("what Apply(%v, %v) answered is not its own memory", b, l)
		}
	}
	if changed < 200 {
		t.Errorf("there were %d changes", changed)
	}
}

// Whatever forms are made of, there is an answer, and with an error nothing else.
func TestApplyOfAnything(t *testing.T) {
	r := drawing{rand.New(rand.NewSource(3))}
	n := func() int64 {
		return pick(r, 0, 1, -1, 9, 10, 20, 24, 25, 26, never, ever, api.MaxEntity, api.MaxEntity-1, int64(r.Intn(30)))
	}
	value := func() api.Value { return api.Value{Kind: r.Intn(9), N: n(), S: pick(r, "", "", "m", "age")} }
	entity := func() api.Entity {
		return api.Entity{Kind: r.Intn(5), N: n(), Name: pick(r, "", "x", "y", "mail", "db/name"), V: value()}
	}
	term := func() api.Term { return api.Term{IsEnt: r.seldom(2), V: value(), E: entity()} }
	bases := []api.Base{{}, {Next: 10}, people(), crowd(), chapter()}
	for range 6000 {
		l := make([]api.Form, r.Intn(4))
		for i := range l {
			l[i] = api.Form{Op: r.Intn(6), E: entity(), A: pick(r, "", "age", "mail", "friend", "db/name", "boss"), V: term(), Old: term(), From: n(), To: n()}
		}
		Names(l)
		for _, b := range bases {
			b.Facts = slices.Clone(b.Facts)
			if r.seldom(10) && len(b.Facts) > 0 {
				i := r.Intn(len(b.Facts))
				b.Facts[i] = api.Fact{E: n(), A: n(), V: value(), Spans: []api.Span{{From: n(), To: n()}}}
			}
			now, changes, temps, e := Apply(b, l)
			if e != api.OK && (now.Facts != nil || now.Next != 0 || now.T != 0 || changes != nil || temps != nil) {
				t.Fatalf("Apply(%v, %v) = %v, %v, %v, %v", b, l, now, changes, temps, e)
			}
			if Check(b) != e && (e == api.ErrArg || e == api.OK) {
				t.Fatalf("Apply(%v, %v) = %v, Check = %v", b, l, e, Check(b))
			}
		}
	}
}
