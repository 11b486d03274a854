package claim

import (
	"fmt"
	"math/rand"
	"slices"
	"strings"
	"testing"

	"daybook/api"
	"daybook/text"
)

func form(op int, x api.Entity, a string, v, old api.Term, at ...int64) api.Form {
	f := api.Form{Op: op, E: x, A: a, V: v, Old: old, From: api.MinTime, To: api.MaxTime}
	if len(at) > 0 {
		f.From, f.To = at[0], at[1]
	}
	return f
}

func add(x api.Entity, a string, v api.Term, at ...int64) api.Form {
	return form(api.FormAdd, x, a, v, api.Term{}, at...)
}

func cut(x api.Entity, a string, v api.Term, at ...int64) api.Form {
	return form(api.FormCut, x, a, v, api.Term{}, at...)
}

func gone(x api.Entity, at ...int64) api.Form {
	return form(api.FormGone, x, "", api.Term{}, api.Term{}, at...)
}

func swap(x api.Entity, a string, old, v api.Term, at ...int64) api.Form {
	return form(api.FormSwap, x, a, v, old, at...)
}

func ent(n int64) api.Entity { return api.Entity{Kind: api.EntNumber, N: n} }

func temp(s string) api.Entity { return api.Entity{Kind: api.EntTemp, Name: s} }

func look(s string, v api.Value) api.Entity { return api.Entity{Kind: api.EntLook, Name: s, V: v} }

func of(x api.Entity) api.Term { return api.Term{IsEnt: true, E: x} }

func plain(v api.Value) api.Term { return api.Term{V: v} }

func num(n int64) api.Value { return api.Value{Kind: api.KInt, N: n} }

func str(s string) api.Value { return api.Value{Kind: api.KText, S: s} }

// brief tells how forms begin.
func brief(l []api.Form) string { return fmt.Sprintf("%.200s", fmt.Sprint(l)) }

// thousand is a text of MaxForms forms, a line each.
func thousand() string { return strings.Repeat("(gone a)\n", MaxForms) }

func TestParse(t *testing.T) {
	for _, x := range []struct {
		s    string
		want []api.Form
	}{
		// The chapter's.
		{`(add @7 :user/name "Ann")`, []api.Form{add(ent(7), "user/name", plain(str("Ann")))}},
		{`(cut bob :user/friend [:user/mail "a"] [!5 !9])`, []api.Form{cut(temp("bob"), "user/friend", of(look("user/mail", str("a"))), 5, 9)}},
		{"(swap @7 :user/age 5 6)", []api.Form{swap(ent(7), "user/age", plain(num(5)), plain(num(6)))}},
		{"(gone bob)", []api.Form{gone(temp("bob"))}},
		// None, and more than one.
		{"", nil}, {" ; (add)\n", nil},
		{"(gone a)(gone a) (gone [:b @1])\n", []api.Form{gone(temp("a")), gone(temp("a")), gone(look("b", api.Value{Kind: api.KRef, N: 1}))}},
		{"( gone ; a\n @0\n[ !-1\t!0 ] )", []api.Form{gone(ent(0), -1, 0)}},
		{"(add x :a y)(cut @1 :a @2)(swap [:a 1] :a [:a 2] [:a 3])", []api.Form{add(temp("x"), "a", of(temp("y"))), cut(ent(1), "a", of(ent(2))), swap(look("a", num(1)), "a", of(look("a", num(2))), of(look("a", num(3))))}},
		// The whole time may be said; half of it is a part.
		{"(gone a [!-9223372036854775808 !9223372036854775807])", []api.Form{gone(temp("a"))}},
		{"(gone a [!-9223372036854775808 !0])(gone a [!0 !9223372036854775807])", []api.Form{gone(temp("a"), api.MinTime, 0), gone(temp("a"), 0, api.MaxTime)}},
		// Names of forms are names like others.
		{"(add add :add add)(gone gone)", []api.Form{add(temp("add"), "add", of(temp("add"))), gone(temp("gone"))}},
		{thousand(), slices.Repeat([]api.Form{gone(temp("a"))}, MaxForms)},
		{strings.Repeat("(add a :b 1)", MaxForms), slices.Repeat([]api.Form{add(temp("a"), "b", plain(num(1)))}, MaxForms)},
	} {
		if l, line, column, e := Parse(x.s); e != api.OK || line != 0 || column != 0 || !slices.Equal(l, x.want) {
			t.Errorf("Parse(%.100q) = %s, %d, %d, %v, want %s", x.s, brief(l), line, column, e, brief(x.want))
		}
	}
}

func TestParseOfWhatIsNone(t *testing.T) {
	long := strings.Repeat("(gone a) ", MaxForms)
	for _, x := range []struct {
		s            string
		line, column int
		e            api.Errno
	}{
		// The chapter's.
		{"(add @7 :user/name)", 1, 1, api.ErrForm}, {`(gone "bob")`, 1, 1, api.ErrForm}, {"x", 1, 1, api.ErrForm}, {`(add @7 :user/name "a" [!5 !5])`, 1, 1, api.ErrForm},
		// The first node that is no form's, not the node within it.
		{"(gone a)\n  (gone\nA1)", 3, 1, api.ErrText}, {"(gone a)\n  (gone\n5)", 2, 3, api.ErrForm}, {"(gone a) x y", 1, 10, api.ErrForm}, {"\n\n5 (gone a)", 3, 1, api.ErrForm}, {"(gone a)\n(gone b) ()\n[]", 2, 10, api.ErrForm},
		// Text that is none goes ahead, wherever it stands.
		{"x )", 1, 3, api.ErrText}, {"(gone 5)\n(gone", 2, 6, api.ErrText}, {"(gone a) \"", 1, 11, api.ErrText}, {strings.Repeat("x ", 5001), 1, 10001, api.ErrText},
		{strings.Repeat("(add a :b 1)", MaxForms) + "\nx", 2, 1, api.ErrText}, {strings.Repeat("(", 51), 1, 51, api.ErrText},
		// The first one behind MaxForms, be it a form's or not.
		{thousand() + "\n (gone a)\n(gone b)", 1002, 2, api.ErrForm}, {thousand() + "x", 1001, 1, api.ErrForm}, {long + "x y", 1, 9001, api.ErrForm},
		{thousand() + "(gone a) x", 1001, 1, api.ErrForm}, {"x" + thousand(), 1, 1, api.ErrForm}, {thousand()[9:] + "() (gone a)", 1000, 1, api.ErrForm},
	} {
		if l, line, column, e := Parse(x.s); e != x.e || l != nil || line != x.line || column != x.column {
			t.Errorf("Parse(%.100q) = %s, %d, %d, %v, want %v at %d:%d", x.s, brief(l), line, column, e, x.e, x.line, x.column)
		}
	}
}

func TestPrint(t *testing.T) {
	for _, x := range []struct {
		l    []api.Form
		want string
	}{
		{nil, ""}, {[]api.Form{}, ""},
		{[]api.Form{add(ent(7), "user/name", plain(str("Ann")))}, "(add @7 :user/name \"Ann\")\n"},
		{[]api.Form{cut(temp("bob"), "user/friend", of(look("user/mail", str("a"))), 5, 9), swap(ent(7), "user/age", plain(num(5)), plain(num(6))), gone(temp("bob"))}, "(cut bob :user/friend [:user/mail \"a\"] [!5 !9])\n(swap @7 :user/age 5 6)\n(gone bob)\n"},
		{[]api.Form{gone(ent(1), api.MinTime, 0), gone(ent(1), 0, api.MaxTime)}, "(gone @1 [!-9223372036854775808 !0])\n(gone @1 [!0 !9223372036854775807])\n"},
		{slices.Repeat([]api.Form{gone(temp("a"))}, MaxForms), thousand()},
		// As many nodes as a text takes.
		{slices.Repeat([]api.Form{add(temp("a"), "b", plain(num(1)))}, MaxForms), strings.Repeat("(add a :b 1)\n", MaxForms)},
		{slices.Repeat([]api.Form{cut(temp("a"), "b", plain(num(1)), 0, 1)}, 625), strings.Repeat("(cut a :b 1 [!0 !1])\n", 625)},
	} {
		if s, e := Print(x.l); e != api.OK || s != x.want {
			t.Errorf("Print(%s) = %.100q, %v, want %.100q", brief(x.l), s, e, x.want)
		}
	}
}

func TestPrintOfTooMany(t *testing.T) {
	one := gone(temp("a"))
	five := add(temp("a"), "b", plain(num(1)))
	eight := add(temp("a"), "b", plain(num(1)), 0, 1)
	for i, l := range [][]api.Form{
		{{}}, {one, {}}, {{}, one}, {one, gone(api.Entity{}), one}, {gone(ent(-1))}, {gone(ent(1), 5, 5)},
		slices.Repeat([]api.Form{one}, MaxForms+1), make([]api.Form, MaxForms+1), make([]api.Form, 100000),
		// 5001 nodes, and more.
		append(slices.Repeat([]api.Form{five}, MaxForms-1), swap(temp("a"), "b", plain(num(1)), plain(num(2)))), append(slices.Repeat([]api.Form{eight}, 625), one), slices.Repeat([]api.Form{eight}, MaxForms),
	} {
		if s, e := Print(l); s != "" || e != api.ErrArg {
			t.Errorf("%d: Print = %.100q, %v, want nothing and ErrArg", i, s, e)
		}
	}
}

func TestSame(t *testing.T) {
	base := swap(look("a", num(1)), "b", plain(num(2)), of(temp("c")), 3, 4)
	others := []api.Form{
		{}, swap(look("a", num(1)), "b", plain(num(2)), of(temp("c"))), swap(look("a", num(1)), "b", plain(num(2)), of(temp("c")), 2, 4), swap(look("a", num(1)), "b", plain(num(2)), of(temp("c")), 3, 5),
		swap(look("b", num(1)), "b", plain(num(2)), of(temp("c")), 3, 4), swap(look("a", num(2)), "b", plain(num(2)), of(temp("c")), 3, 4), swap(temp("a"), "b", plain(num(2)), of(temp("c")), 3, 4), swap(ent(1), "b", plain(num(2)), of(temp("c")), 3, 4),
		swap(look("a", num(1)), "c", plain(num(2)), of(temp("c")), 3, 4), swap(look("a", num(1)), "b", plain(num(3)), of(temp("c")), 3, 4), swap(look("a", num(1)), "b", plain(num(2)), of(temp("d")), 3, 4), swap(look("a", num(1)), "b", of(temp("c")), plain(num(2)), 3, 4),
		swap(look("a", num(1)), "b", plain(num(2)), api.Term{E: temp("c")}, 3, 4), form(api.FormAdd, base.E, base.A, base.V, base.Old, 3, 4), form(9, base.E, base.A, base.V, base.Old, 3, 4),
	}
	for _, f := range others {
		if Same([]api.Form{base}, []api.Form{f}) || Same([]api.Form{f}, []api.Form{base}) || !Same([]api.Form{f}, []api.Form{f}) {
			t.Errorf("%v is the same as %v, or is not the same as itself", f, base)
		}
	}
	again := []api.Form{swap(look("a", num(1)), strings.Clone("b"), plain(num(2)), of(temp("c")), 3, 4)}
	one, two := []api.Form{base}, []api.Form{base, others[1]}
	for _, x := range []struct {
		a, b []api.Form
		want bool
	}{
		{nil, nil, true}, {nil, []api.Form{}, true}, {[]api.Form{}, []api.Form{}, true}, {one, again, true}, {two, slices.Clone(two), true},
		{nil, one, false}, {nil, []api.Form{{}}, false}, {one, two, false}, {two, one, false}, {two, two[1:], false}, {two, []api.Form{two[1], two[0]}, false}, {one, []api.Form{base, base}, false}, {two, []api.Form{two[0], two[0]}, false},
	} {
		if Same(x.a, x.b) != x.want || Same(x.b, x.a) != x.want {
			t.Errorf("Same(%v, %v) is not %v", x.a, x.b, x.want)
		}
	}
}

// drawn are some of the forms that may be.
func drawn(r *rand.Rand, forms []api.Form) []api.Form {
	var l []api.Form
	for range r.Intn(9) {
		l = append(l, forms[r.Intn(len(forms))])
	}
	return l
}

func TestThereAndBack(t *testing.T) {
	forms := good()
	lists := [][]api.Form{nil, slices.Repeat([]api.Form{gone(temp("a"))}, MaxForms)}
	for _, f := range forms {
		lists = append(lists, []api.Form{f})
	}
	r := rand.New(rand.NewSource(1))
	for range 3000 {
		lists = append(lists, drawn(r, forms))
	}
	for _, l := range lists {
		s, e := Print(l)
		if e != api.OK || strings.Count(s, "\n") != len(l) {
			t.Fatalf("Print(%v) = %q, %v", l, s, e)
		}
		back, line, column, e := Parse(s)
		if e != api.OK || line != 0 || column != 0 || !Same(back, l) {
			t.Fatalf("Parse(%q) = %v, %d, %d, %v, want %v", s, back, line, column, e, l)
		}
	}
}

// What Parse answers, of texts that are no prints, is the same when it is printed and parsed again.
func TestParsePrintedAndParsedAgain(t *testing.T) {
	gaps := []string{" ", "\n", "\t ", " ; a (\n", "\r\n"}
	r := rand.New(rand.NewSource(2))
	forms := good()
	for range 3000 {
		l := drawn(r, forms)
		var b strings.Builder
		for _, f := range l {
			n, _ := Write(f)
			if f.From == api.MinTime && f.To == api.MaxTime && r.Intn(2) == 0 {
				n.Kids = append(n.Kids, pairNode(timeOf(api.MinTime), timeOf(api.MaxTime)))
			}
			s, _ := text.Print([]api.Node{n})
			// None of the texts that are drawn has a blank within.
			for word := range strings.SplitSeq(s, " ") {
				b.WriteString(word + gaps[r.Intn(len(gaps))])
			}
		}
		got, _, _, e := Parse(b.String())
		if e != api.OK || !Same(got, l) {
			t.Fatalf("Parse(%q) = %v, %v, want %v", b.String(), got, e, l)
		}
		s, e := Print(got)
		again, _, _, f := Parse(s)
		if e != api.OK || f != api.OK || !Same(again, got) {
			t.Fatalf("%q is printed %q, %v, and parsed %v, %v", b.String(), s, e, again, f)
		}
	}
}

// What is handed in is only read, the room behind it with it; what is answered is new memory.
func TestOnlyRead(t *testing.T) {
	r := rand.New(rand.NewSource(3))
	forms := good()
	for range 1000 {
		room := append(drawn(r, forms), gone(temp("room")), gone(temp("room")))
		kept := slices.Clone(room)
		l := room[:len(room)-2]
		s, _ := Print(l)
		Same(l, l)
		back, _, _, _ := Parse(s)
		again, _, _, _ := Parse(s)
		_ = append(back, api.Form{}, api.Form{})
		clear(back[:cap(back)])
		if !slices.Equal(room, kept) || !Same(again, l) {
			t.Fatalf("%v has turned to %v, or Parse answers %v", kept, room, again)
		}
	}
}
