package txn

import (
	"daybook/api"
	"daybook/span"
)

// deed is what forms do to a triple: the instants at which they add it, and at which they cut it.
type deed struct{ in, out []api.Span }

// deeds are those of the forms. They are gathered when they are asked for first, behind the rows that they take for granted.
func (t *trial) deeds() map[triple]deed {
	if t.done == nil {
		t.done = t.gathered()
	}
	return t.done
}

func (t *trial) gathered() map[triple]deed {
	strokes := map[triple]deed{}
	add := func(p triple, at api.Span) { strokes[p] = deed{append(strokes[p].in, at), strokes[p].out} }
	cut := func(p triple, at api.Span) { strokes[p] = deed{strokes[p].in, append(strokes[p].out, at)} }
	for m := range t.meanings() {
		switch m.op {
		case api.FormAdd:
			add(m.of(m.v), m.at)
		case api.FormCut:
			cut(m.of(m.v), m.at)
		case api.FormSwap:
			if m.old != m.v {
				cut(m.of(m.old), m.at)
				add(m.of(m.v), m.at)
			}
		}
	}
	for _, f := range t.gone() {
		cut(ofFact(f), whole())
	}
	done := map[triple]deed{}
	for p, d := range strokes {
		in, _ := span.Make(d.in)
		out, _ := span.Make(d.out)
		done[p] = deed{in, out}
	}
	return done
}

// gone are the base's facts of the gones' family, and those that refer to it.
func (t *trial) gone() []api.Fact {
	family := t.family()
	var l []api.Fact
	for _, f := range t.base.Facts {
		_, own := family[f.E]
		_, refers := family[f.V.N]
		if own || refers && f.V.Kind == api.KRef {
			l = append(l, f)
		}
	}
	return l
}
