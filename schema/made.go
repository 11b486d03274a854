package schema

import (
	"iter"

	"daybook/api"
)

// The greatest numbers that have a meaning.
const (
	lastType   = api.KWord
	lastUnique = 2
)

// attributes are those of facts that may be: the built-in ones, and behind them the made ones, rising.
func attributes(l []api.Fact) iter.Seq[api.Attr] {
	return func(yield func(api.Attr) bool) {
		for _, a := range Builtin() {
			if !yield(a) {
				return
			}
		}
		for rest := l; len(rest) > 0; {
			own := ofOne(rest)
			rest = rest[len(own):]
			if a, ok := made(own); ok && !yield(a) {
				return
			}
		}
	}
}

// ofOne are the facts of the entity that stands first.
func ofOne(l []api.Fact) []api.Fact {
	n := 1
	for n < len(l) && l[n].E == l[0].E {
		n++
	}
	return l[:n]
}

// made is the attribute that an entity's facts, one at least, make of it; they may make none.
func made(own []api.Fact) (api.Attr, bool) {
	a := api.Attr{ID: own[0].E}
	names, types := 0, 0
	for _, f := range own {
		switch f.A {
		case api.AName:
			names++
			if f.V.Kind == api.KWord {
				a.Name = f.V.S
			}
		case api.AType:
			types++
			a.Type = numberOf(f.V, lastType)
		case api.AMany:
			a.Many = a.Many || isTrue(f.V)
		case api.AUnique:
			a.Unique = max(a.Unique, numberOf(f.V, lastUnique))
		case api.APart:
			a.Part = a.Part || isTrue(f.V)
		case api.AIndex:
			a.Index = a.Index || isTrue(f.V)
		}
	}
	if a.ID < api.First || names != 1 || types != 1 || a.Name == "" || a.Type == 0 {
		return api.Attr{}, false
	}
	return a, true
}

// numberOf is the number that a KInt from 1 to most says; any other value says 0.
func numberOf(v api.Value, most int64) int {
	if v.Kind != api.KInt || v.N < 1 || v.N > most {
		return 0
	}
	return int(v.N)
}

func isTrue(v api.Value) bool { return v.Kind == api.KBool && v.N == 1 }
