package claim

import (
	"iter"

	"daybook/api"
)

// The parts of a form that stand behind its name.
const (
	partE = iota
	partA
	partOld
	partV
	partSpan
)

// partsOf are those that a form names, as they stand in its node: the last one is the span, which may be left out. There are none, if there is no such form.
func partsOf(op int) []int {
	switch op {
	case api.FormAdd, api.FormCut:
		return []int{partE, partA, partV, partSpan}
	case api.FormGone:
		return []int{partE, partSpan}
	case api.FormSwap:
		return []int{partE, partA, partOld, partV, partSpan}
	}
	return nil
}

// names are those with which forms' nodes begin, by their Ops.
var names = [...]string{api.FormAdd: "add", api.FormCut: "cut", api.FormGone: "gone", api.FormSwap: "swap"}

// opOf is the form whose node begins with a name; 0, if none's does.
func opOf(name string) int {
	for op, s := range names {
		if s == name {
			return op
		}
	}
	return 0
}

// kidsOf are the kids of a form's node behind its name, each with the part that stands at its place. There is none, if there are too many of them, or too few.
func kidsOf(n api.Node, op int) iter.Seq2[int, api.Node] {
	parts := partsOf(op)
	return func(yield func(int, api.Node) bool) {
		kids := n.Kids[1:]
		if len(kids) > len(parts) || len(kids) < len(parts)-1 {
			return
		}
		for i, kid := range kids {
			if !yield(parts[i], kid) {
				return
			}
		}
	}
}
