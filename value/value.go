// Package value is layer 1: what can be said of something; see shared/doc/01-value.md.
package value

import (
	"cmp"
	"slices"

	"daybook/api"
)

// Check says whether a value may be.
func Check(v api.Value) api.Errno {
	if !mayBe(v) {
		return api.ErrKind
	}
	return api.OK
}

// mayBe goes from narrow kinds on to wider ones: what a kind asks over the next one is asked ahead of it.
func mayBe(v api.Value) bool {
	switch v.Kind {
	case api.KBool:
		if v.N > 1 {
			return false
		}
		fallthrough
	case api.KRef:
		if v.N < 0 || v.N >= api.MaxEntity {
			return false
		}
		fallthrough
	case api.KInt, api.KTime:
		return v.S == ""
	case api.KWord:
		if !isWord(v.S) {
			return false
		}
		fallthrough
	case api.KText, api.KBytes:
		return v.N == 0 && len(v.S) <= api.MaxText
	}
	return false
}

// isWord says whether a text is what a KWord may name.
func isWord(s string) bool {
	if s == "" || len(s) > api.MaxWord || !isLetter(s[0]) {
		return false
	}
	for i := 1; i < len(s); i++ {
		if !inWord(s[i]) {
			return false
		}
	}
	return true
}

func isLetter(c byte) bool { return 'a' <= c && c <= 'z' }

func inWord(c byte) bool {
	switch c {
	case '.', '_', '-', '/':
		return true
	}
	return isLetter(c) || '0' <= c && c <= '9'
}

// Compare says how two stand in the order.
func Compare(a, b api.Value) int {
	if c := cmp.Compare(a.Kind, b.Kind); c != 0 {
		return c
	}
	if c := cmp.Compare(a.N, b.N); c != 0 {
		return c
	}
	return cmp.Compare(a.S, b.S)
}

// Sorted are values in order, each once.
func Sorted(l []api.Value) []api.Value {
	sorted := slices.Clone(l)
	slices.SortFunc(sorted, Compare)
	return slices.Compact(sorted)
}
