package calc

import (
	"slices"
	"testing"
	"unsafe"

	"daybook/api"
)

// What is handed in, and the room behind it, stays as it is.
func TestWhatIsHandedIn(t *testing.T) {
	behind := kText("behind")
	for _, v := range list(`5 "abc" #616263 :abc !5`) {
		for _, name := range append(Names(), "neither") {
			for n := range 4 {
				l := append(slices.Repeat([]api.Value{v}, n), behind, behind)
				if name == "sub" && n == 3 {
					l[1], l[2] = number(1), number(2)
				}
				kept := slices.Clone(l)
				Test(name, l[:n])
				Do(name, l[:n])
				if !slices.Equal(l, kept) {
					t.Errorf("%s turned %s to %s", name, brief(kept...), brief(l...))
				}
			}
		}
	}
}

// An answer does not hold on to a text that was handed in.
func TestAnswersAreNewMemory(t *testing.T) {
	for _, x := range []struct {
		name string
		l    []api.Value
	}{
		{"sub", list(`"abcdef" 0 3`)},
		{"sub", list(`"abcdef" 0 6`)},
		{"sub", list(`#616263 1 3`)},
		{"min", list(`"abc" "abd"`)},
		{"max", list(`#6162 #6161`)},
		{"max", list(`:user/name 5`)},
		{"name", list(`:user/name`)},
		{"cat", list(`"abc" ""`)},
		{"cat", list(`"" "abc"`)},
		{"value", list(`":user/name"`)},
		{"value", list(`"\22abc\22"`)},
		{"text", list(`:user/name`)},
	} {
		v, is, e := Do(x.name, x.l)
		if !is || e != api.OK || v.S == "" {
			t.Fatalf("Do of %s and %s = %s, %v, %v", x.name, brief(x.l...), brief(v), is, e)
		}
		for _, w := range x.l {
			if shares(v.S, w.S) {
				t.Errorf("Do of %s and %s is memory that was handed in", x.name, brief(x.l...))
			}
		}
	}
}

// shares says whether two texts stand in the same memory.
func shares(a, b string) bool {
	if a == "" || b == "" {
		return false
	}
	first := func(s string) uintptr { return uintptr(unsafe.Pointer(unsafe.StringData(s))) }
	return first(a) < first(b)+uintptr(len(b)) && first(b) < first(a)+uintptr(len(a))
}
