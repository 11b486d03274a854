package facts

import (
	"daybook/api"
	"daybook/span"
)

// turn is what transactions, one or some behind one another, make of a triple's instants: first those of out go, then those of in come.
type turn struct{ in, out []api.Span }

// turnOf is that of one transaction's datoms of one triple; there is none, if an instant is added and cut.
func turnOf(said []api.Datom) (turn, bool) {
	var added, cut []api.Span
	for _, d := range said {
		s := api.Span{From: d.From, To: d.To}
		if d.Add {
			added = append(added, s)
		} else {
			cut = append(cut, s)
		}
	}
	in, _ := span.Make(added)
	out, _ := span.Make(cut)
	clash, _ := span.And(in, out)
	return turn{in, out}, len(clash) == 0
}

// then is a turn, and a later one behind it.
func (t turn) then(later turn) turn {
	stays, _ := span.Minus(t.in, later.out)
	in, _ := span.Or(stays, later.in)
	out, _ := span.Or(t.out, later.out)
	return turn{in, out}
}

// joined is what turns, one at least, make one behind the other. They are joined by halves: one by one each would go through all the spans of those ahead.
func joined(l []turn) turn {
	if len(l) == 1 {
		return l[0]
	}
	half := len(l) / 2
	return joined(l[:half]).then(joined(l[half:]))
}
