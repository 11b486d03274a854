package facts

import (
	"iter"
	"slices"

	"daybook/api"
	"daybook/datom"
)

// Fold are the facts of datoms.
func Fold(l []api.Datom) ([]api.Fact, api.Errno) {
	if slices.ContainsFunc(l, func(d api.Datom) bool { return datom.Check(d) != api.OK }) {
		return nil, api.ErrFacts
	}
	var folded []api.Fact
	e := api.OK
folding:
	for p, said := range runs(datom.Sorted(api.EAVT, l), ofDatom) {
		var turns []turn
		for _, once := range runs(said, func(d api.Datom) int64 { return d.T }) {
			t, ok := turnOf(once)
			if !ok {
				folded, e = nil, api.ErrFacts
				break folding
			}
			turns = append(turns, t)
		}
		if held := joined(turns).in; len(held) > 0 {
			folded = append(folded, api.Fact{E: p.e, A: p.a, V: p.v, Spans: held})
		}
	}
	return folded, e
}

// runs are the stretches of datoms behind one another that have one key, each with that.
func runs[K comparable](l []api.Datom, keyOf func(api.Datom) K) iter.Seq2[K, []api.Datom] {
	return func(yield func(K, []api.Datom) bool) {
		rest := l
		for len(rest) > 0 {
			key, n := keyOf(rest[0]), 1
			for n < len(rest) && keyOf(rest[n]) == key {
				n++
			}
			if !yield(key, rest[:n]) {
				return
			}
			rest = rest[n:]
		}
	}
}

// Datoms are a view's.
func Datoms(l []api.Datom, v api.View) ([]api.Datom, api.Errno) {
	if !isMark(v.AsOf) || !isMark(v.Since) {
		return nil, api.ErrArg
	}
	var seen []api.Datom
	for _, d := range l {
		if d.T > v.Since && (v.AsOf == 0 || d.T <= v.AsOf) {
			seen = append(seen, d)
		}
	}
	return datom.Sorted(api.EAVT, seen), api.OK
}

// isMark says whether a view may name a transaction, or 0.
func isMark(n int64) bool { return 0 <= n && n <= api.MaxTx }

// Of are a view's facts.
func Of(l []api.Datom, v api.View) ([]api.Fact, api.Errno) {
	if v.History {
		return nil, api.ErrArg
	}
	seen, e := Datoms(l, v)
	if e != api.OK {
		return nil, e
	}
	held, e := Fold(seen)
	if e != api.OK || !v.At {
		return held, e
	}
	return At(held, v.Valid)
}
