package claim

import (
	"math/rand"
	"regexp"
	"slices"
	"strings"
	"testing"

	"daybook/api"
	"daybook/text"
)

func val(v api.Value) api.Node { return api.Node{Kind: api.NodeValue, V: v} }

func ref(n int64) api.Node { return val(api.Value{Kind: api.KRef, N: n}) }

func word(s string) api.Node { return val(api.Value{Kind: api.KWord, S: s}) }

func when(n int64) api.Node { return val(api.Value{Kind: api.KTime, N: n}) }

func name(s string) api.Node { return api.Node{Kind: api.NodeName, S: s} }

func list(kids ...api.Node) api.Node { return api.Node{Kind: api.NodeList, Kids: kids} }

func vec(kids ...api.Node) api.Node { return api.Node{Kind: api.NodeVec, Kids: kids} }

func dict(kids ...api.Node) api.Node { return api.Node{Kind: api.NodeMap, Kids: kids} }

// equal holds nodes against each other, their places with them.
func equal(a, b api.Node) bool {
	return a.Kind == b.Kind && a.V == b.V && a.S == b.S && a.Line == b.Line && a.Column == b.Column && slices.EqualFunc(a.Kids, b.Kids, equal)
}

// copied is a node with lists of its own.
func copied(n api.Node) api.Node {
	n.Kids = slices.Clone(n.Kids)
	for i := range n.Kids {
		n.Kids[i] = copied(n.Kids[i])
	}
	return n
}

// moved is the same node elsewhere.
func moved(n api.Node) api.Node {
	n = copied(n)
	n.Line, n.Column = n.Line-3, n.Column+9
	for i := range n.Kids {
		n.Kids[i] = moved(n.Kids[i])
	}
	return n
}

func TestReadAndWrite(t *testing.T) {
	for _, x := range []struct {
		f    api.Form
		want api.Node
	}{
		{add(ent(7), "user/name", plain(str("Ann"))), list(name("add"), ref(7), word("user/name"), val(str("Ann")))},
		{cut(temp("bob"), "user/friend", of(look("user/mail", str("a"))), 5, 9), list(name("cut"), name("bob"), word("user/friend"), vec(word("user/mail"), val(str("a"))), vec(when(5), when(9)))},
		{swap(ent(7), "user/age", plain(num(5)), plain(num(6))), list(name("swap"), ref(7), word("user/age"), val(num(5)), val(num(6)))},
		{swap(ent(7), "user/age", of(temp("old")), of(ent(6)), 0, api.MaxTime), list(name("swap"), ref(7), word("user/age"), name("old"), ref(6), vec(when(0), when(api.MaxTime)))},
		{gone(temp("bob")), list(name("gone"), name("bob"))},
		{gone(look("a", api.Value{Kind: api.KTime, N: 5}), api.MinTime, 0), list(name("gone"), vec(word("a"), when(5)), vec(when(api.MinTime), when(0)))},
		{add(look("a", api.Value{Kind: api.KWord, S: "b"}), "a", plain(api.Value{Kind: api.KTime, N: 5})), list(name("add"), vec(word("a"), word("b")), word("a"), when(5))},
		{add(ent(0), "a", of(look("a", api.Value{Kind: api.KRef}))), list(name("add"), ref(0), word("a"), vec(word("a"), ref(0)))},
	} {
		if n, e := Write(x.f); e != api.OK || !equal(n, x.want) {
			t.Errorf("Write(%v) = %v, %v, want %v", x.f, n, e, x.want)
		}
		if f, e := Read(x.want); e != api.OK || f != x.f {
			t.Errorf("Read(%v) = %v, %v, want %v", x.want, f, e, x.f)
		}
	}
}

// hasPlace says whether a node, or one within it, has a line or a column.
func hasPlace(n api.Node) bool {
	return n.Line != 0 || n.Column != 0 || slices.ContainsFunc(n.Kids, hasPlace)
}

// Of each form that may be the node is read as that form, wherever it stands, and if the whole time is said; of no other form there is a node.
func TestReadOfWrite(t *testing.T) {
	for _, f := range good() {
		n, e := Write(f)
		if e != api.OK || hasPlace(n) {
			t.Fatalf("Write(%v) = %v, %v", f, n, e)
		}
		nodes := []api.Node{n, moved(n)}
		if f.From == api.MinTime && f.To == api.MaxTime {
			nodes = append(nodes, list(append(n.Kids, vec(when(f.From), when(f.To)))...))
		}
		for _, m := range nodes {
			if back, e := Read(m); e != api.OK || back != f {
				t.Fatalf("Read(%v) = %v, %v, want %v", m, back, e, f)
			}
		}
	}
	for _, f := range bad() {
		if n, e := Write(f); e != api.ErrForm || !equal(n, api.Node{}) {
			t.Fatalf("Write(%v) = %v, %v, want nothing and ErrForm", f, n, e)
		}
	}
}

// within is a node that stands within itself.
func within() api.Node {
	kids := []api.Node{name("gone"), list()}
	kids[1].Kids = kids
	return list(kids...)
}

func TestReadOfWhatIsNone(t *testing.T) {
	bob, a, one, at := name("bob"), word("a"), val(num(1)), vec(when(5), when(9))
	look := vec(a, one)
	whole := vec(when(api.MinTime), when(api.MaxTime))
	var long []api.Node
	for range 100000 {
		long = append(long, name("gone"))
	}
	for i, n := range []api.Node{
		{}, bob, one, a, ref(1), look, at, list(), vec(), dict(), val(api.Value{}), name(""), name("gone"),
		// Other brackets, and other names.
		vec(name("gone"), bob), dict(name("gone"), bob), list(name("add")), list(name("gone")), list(bob, bob), list(bob), list(name("Gone"), bob), list(name("goner"), bob), list(name(""), bob), list(val(str("gone")), bob), list(word("gone"), bob), list(list(name("gone"), bob)), list(vec(name("gone")), bob), list(bob, name("gone")),
		// Too few, and too many.
		list(name("add"), bob), list(name("add"), bob, a), list(name("add"), bob, one), list(name("add"), bob, a, at), list(name("add"), bob, a, one, at, at), list(name("add"), bob, a, one, one), list(name("add"), bob, a, one, one, at),
		list(name("cut"), bob), list(name("cut"), bob, a), list(name("cut"), bob, a, at), list(name("cut"), bob, a, one, at, bob),
		list(name("gone"), at), list(name("gone"), bob, bob), list(name("gone"), bob, a), list(name("gone"), bob, a, one), list(name("gone"), bob, at, at), list(name("gone"), bob, whole, whole),
		list(name("swap"), bob, a, one), list(name("swap"), bob, a, one, at), list(name("swap"), bob, a, one, one, at, at), list(name("swap"), bob, a), list(name("swap"), bob), list(name("swap"), bob, a, one, one, one), list(name("swap"), bob, a, one, one, whole, at),
		// An entity that is none.
		list(name("gone"), one), list(name("gone"), val(str("bob"))), list(name("gone"), a), list(name("gone"), list(a, one)), list(name("gone"), dict(a, one)), list(name("gone"), vec()), list(name("gone"), vec(a)), list(name("gone"), vec(a, one, one)), list(name("gone"), vec(one, a)), list(name("gone"), vec(bob, one)), list(name("gone"), vec(a, bob)), list(name("gone"), vec(a, look)), list(name("gone"), vec(list(a), one)), list(name("gone"), at), list(name("gone"), vec(ref(1))),
		list(name("gone"), ref(-1)), list(name("gone"), ref(api.MaxEntity)), list(name("gone"), name("A")), list(name("gone"), name("5")), list(name("gone"), name("true")), list(name("gone"), vec(word("A"), one)), list(name("gone"), vec(a, val(api.Value{}))), list(name("gone"), vec(a, ref(-1))),
		// An attribute that is none.
		list(name("add"), bob, bob, one), list(name("add"), bob, one, one), list(name("add"), bob, val(str("a")), one), list(name("add"), bob, vec(a), one), list(name("add"), bob, vec(a, one), one), list(name("add"), bob, word("A"), one), list(name("add"), bob, word(""), one), list(name("add"), bob, ref(1), one), list(name("swap"), bob, bob, one, one),
		// A term that is none.
		list(name("add"), bob, a, at), list(name("add"), bob, a, list()), list(name("add"), bob, a, dict(a, one)), list(name("add"), bob, a, vec(a)), list(name("add"), bob, a, vec(a, bob)), list(name("add"), bob, a, ref(-1)), list(name("add"), bob, a, val(api.Value{Kind: 8})), list(name("swap"), bob, a, at, one), list(name("swap"), bob, a, one, at), list(name("swap"), bob, a, list(one), one), list(name("swap"), bob, a, one, list(one)),
		// A span that is none.
		list(name("gone"), bob, vec(when(5), when(5))), list(name("gone"), bob, vec(when(9), when(5))), list(name("gone"), bob, list(when(5), when(9))), list(name("gone"), bob, dict(when(5), when(9))), list(name("gone"), bob, vec()), list(name("gone"), bob, vec(when(5))), list(name("gone"), bob, vec(when(5), when(9), when(10))), list(name("gone"), bob, vec(val(num(5)), when(9))), list(name("gone"), bob, vec(when(5), val(num(9)))), list(name("gone"), bob, vec(bob, when(5))), list(name("gone"), bob, vec(when(-5), bob)), list(name("gone"), bob, when(5), when(9)), list(name("gone"), bob, vec(when(-5), list())), list(name("gone"), bob, vec(vec(when(5)), vec(when(9)))),
		list(name("gone"), bob, vec(when(5), val(api.Value{Kind: api.KTime, N: 9, S: "a"}))), list(name("add"), bob, a, one, vec(when(api.MaxTime), when(api.MinTime))), list(name("swap"), bob, a, one, one, vec(when(0), when(0))), list(name("swap"), bob, a, one, one, look),
		// Nodes that have what their kind does not name.
		{Kind: api.NodeList, Kids: []api.Node{name("gone"), bob}, S: "a"}, {Kind: api.NodeList, Kids: []api.Node{name("gone"), bob}, V: num(1)}, list(api.Node{Kind: api.NodeName, S: "gone", V: num(1)}, bob), list(api.Node{Kind: api.NodeName, S: "gone", Kids: []api.Node{bob}}, bob), list(api.Node{Kind: api.NodeValue, S: "gone", V: num(1)}, bob), list(api.Node{S: "gone"}, bob), list(api.Node{Kind: api.NodeList, S: "gone"}, bob),
		list(name("gone"), api.Node{Kind: api.NodeName, S: "bob", V: api.Value{N: 1}}), list(name("gone"), api.Node{Kind: api.NodeName, S: "bob", Kids: []api.Node{bob}}), list(name("gone"), api.Node{Kind: api.NodeValue, V: api.Value{Kind: api.KRef, N: 1}, S: "a"}), list(name("gone"), api.Node{Kind: api.NodeValue, V: api.Value{Kind: api.KRef, N: 1}, Kids: []api.Node{one}}), list(name("gone"), val(api.Value{Kind: api.KRef, N: 1, S: "a"})), list(name("gone"), api.Node{Kind: api.NodeVec, Kids: []api.Node{a, one}, S: "a"}), list(name("gone"), api.Node{Kind: api.NodeVec, Kids: []api.Node{a, one}, V: num(1)}), list(name("gone"), vec(api.Node{Kind: api.NodeVec, V: a.V}, one)), list(name("gone"), vec(a, api.Node{Kind: api.NodeName, S: "a", V: num(1)})),
		list(name("gone"), bob, api.Node{Kind: api.NodeVec, Kids: at.Kids, S: "a"}), list(name("gone"), bob, vec(api.Node{Kind: api.NodeName, S: "a", V: when(5).V}, when(9))), list(name("add"), bob, api.Node{Kind: api.NodeName, S: "a", V: a.V}, one), list(name("add"), bob, api.Node{Kind: api.NodeList, V: a.V}, one), list(name("add"), bob, a, api.Node{Kind: api.NodeValue, V: num(1), S: "a"}), list(name("add"), bob, a, api.Node{V: num(1)}),
		// Many, and without an end.
		list(long...), list(name("gone"), list(long...)), list(name("gone"), vec(long...)), list(name("gone"), bob, vec(long...)), within(), list(name("gone"), within()), list(name("add"), bob, a, within()),
	} {
		if f, e := Read(n); e != api.ErrForm || f != (api.Form{}) {
			t.Errorf("%d: Read = %v, %v, want nothing and ErrForm", i, f, e)
		}
	}
}

// coded tells a node that may be by its shape alone: names as they are, of values which kinds they have.
func coded(n api.Node) string {
	switch n.Kind {
	case api.NodeName:
		return "'" + n.S + "'"
	case api.NodeValue:
		return string("..iiiirtw"[n.V.Kind+1])
	}
	s := "([{"[n.Kind-api.NodeList : n.Kind-api.NodeList+1]
	for _, kid := range n.Kids {
		s += coded(kid)
	}
	return s + ")]}"[n.Kind-api.NodeList:n.Kind-api.NodeList+1]
}

// aForm is what the shape of a form's node is.
var aForm = regexp.MustCompile(strings.NewReplacer("E", `(?:r|'[^']+'|\[w[irtw]\])`, "T", `(?:[irtw]|'[^']+'|\[w[irtw]\])`, "S", `(?:\[tt\])?`).Replace(`^(?:\('(?:add|cut)'EwTS\)|\('gone'ES\)|\('swap'EwTTS\))$`))

// isForms says whether a node that may be is a form's, by its shape, and by what its span has.
func isForms(n api.Node) bool {
	if !aForm.MatchString(coded(n)) {
		return false
	}
	last := n.Kids[len(n.Kids)-1]
	return coded(last) != "[tt]" || last.Kids[0].V.N < last.Kids[1].V.N
}

// turned is a node with something of it put elsewhere, left out, said twice, or exchanged.
func turned(r *rand.Rand, n api.Node, pieces []api.Node) api.Node {
	n = copied(n)
	if i := r.Intn(len(n.Kids) + 1); i < len(n.Kids) && len(n.Kids[i].Kids) > 0 && r.Intn(2) == 0 {
		n.Kids[i] = turned(r, n.Kids[i], pieces)
		return n
	}
	i, j := r.Intn(len(n.Kids)+1), r.Intn(len(n.Kids)+1)
	piece := pieces[r.Intn(len(pieces))]
	switch within := i < len(n.Kids) && j < len(n.Kids); {
	case !within:
		n.Kids = slices.Insert(n.Kids, min(i, len(n.Kids)), piece)
	case r.Intn(4) == 0:
		n.Kids[i], n.Kids[j] = n.Kids[j], n.Kids[i]
	case r.Intn(3) == 0:
		n.Kids = slices.Delete(n.Kids, i, i+1)
	case r.Intn(6) == 0:
		n.Kind = api.NodeList + r.Intn(3)
	default:
		n.Kids[i] = piece
	}
	return n
}

// Forms' nodes that something was done to, held against their shapes.
func TestReadByShapes(t *testing.T) {
	pieces := []api.Node{name("add"), name("cut"), name("gone"), name("swap"), name("a"), val(num(5)), val(str("x")), val(api.Value{Kind: api.KBool}), ref(7), word("a"), when(-1), when(5), vec(when(5), when(9)), vec(when(5), when(5)), vec(when(api.MinTime), when(api.MaxTime)), vec(word("a"), val(num(1))), vec(word("a"), ref(1)), vec(word("a"), when(1)), vec(), list(), dict(), vec(word("a"), name("b")), list(name("gone"), name("a"))}
	r := rand.New(rand.NewSource(1))
	forms := good()
	told := [2]int{}
	for range 300000 {
		n, _ := Write(forms[r.Intn(len(forms))])
		for range 1 + r.Intn(3) {
			n = turned(r, n, pieces)
		}
		f, e := Read(n)
		if !isForms(n) {
			told[0]++
			if e != api.ErrForm || f != (api.Form{}) {
				t.Fatalf("Read(%v) = %v, %v, want nothing and ErrForm", n, f, e)
			}
			continue
		}
		told[1]++
		back, _ := Write(f)
		if whole := vec(when(api.MinTime), when(api.MaxTime)); e == api.OK && equal(n.Kids[len(n.Kids)-1], whole) {
			back.Kids = append(back.Kids, whole)
		}
		if e != api.OK || !equal(back, n) {
			t.Fatalf("Read(%v) = %v, %v, and the node of that is %v", n, f, e, back)
		}
	}
	if min(told[0], told[1]) < 10000 {
		t.Errorf("%d nodes are no form's, %d are one's", told[0], told[1])
	}
}

// What tells kids stops when no more are wanted, and tells none where their number is wrong.
func TestKidsStop(t *testing.T) {
	n, _ := Write(swap(temp("a"), "b", plain(num(1)), plain(num(2)), 0, 1))
	want := []int{partE, partA, partOld, partV, partSpan}
	for most := 1; most <= len(want); most++ {
		var got []int
		for part, kid := range kidsOf(n, api.FormSwap) {
			if !equal(kid, n.Kids[1+len(got)]) {
				t.Errorf("kid %d: %v", len(got), kid)
			}
			if got = append(got, part); len(got) == most {
				break
			}
		}
		if !slices.Equal(got, want[:most]) {
			t.Errorf("the first %d parts: %v", most, got)
		}
	}
	for part := range kidsOf(n, api.FormAdd) {
		t.Errorf("part %d of another form", part)
	}
	for part := range kidsOf(list(name("swap"), name("a"), word("b"), val(num(1))), api.FormSwap) {
		t.Errorf("part %d of a form with too few", part)
	}
}

// Read and Write answer new memory, and leave what they were handed as it was.
func TestNodesAreOnlyRead(t *testing.T) {
	for _, f := range good() {
		n, _ := Write(f)
		n.Kids = append(n.Kids, name("room"))
		short := n
		short.Kids = n.Kids[:len(n.Kids)-1]
		kept := copied(n)
		if got, e := Read(short); e != api.OK || got != f || !equal(n, kept) {
			t.Fatalf("Read(%v) = %v, %v, and the node is %v", kept, got, e, n)
		}
		again, _ := Write(f)
		_ = append(again.Kids[:1], name("other"))
		for i := range again.Kids {
			clear(again.Kids[i].Kids)
			_ = append(again.Kids[i].Kids, name("more"))
		}
		clear(again.Kids)
		if third, _ := Write(f); !equal(short, third) {
			t.Fatalf("Write(%v) shares memory with what it answers once more", f)
		}
	}
}

// Parse's forms are those of the text's nodes.
func TestParseOfNodes(t *testing.T) {
	nodes, _, _, e := text.Parse("(gone a) (add\n@1 :b\n 2)")
	l, _, _, f := Parse("(gone a) (add\n@1 :b\n 2)")
	if e != api.OK || f != api.OK || len(l) != len(nodes) {
		t.Fatal(l, e, f)
	}
	for i, n := range nodes {
		if one, e := Read(n); e != api.OK || one != l[i] {
			t.Errorf("Read(%v) = %v, %v, want %v", n, one, e, l[i])
		}
	}
}
