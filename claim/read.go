package claim

import (
	"daybook/api"
	"daybook/text"
)

// Read is a node's form.
func Read(n api.Node) (api.Form, api.Errno) {
	// A form's node may be; of one that may be only what its kind names is left to look at.
	if alone := []api.Node{n}; n.Kind != api.NodeList || len(n.Kids) == 0 || !text.Same(alone, alone) {
		return api.Form{}, api.ErrForm
	}
	f := api.Form{Op: opOf(n.Kids[0].S), From: api.MinTime, To: api.MaxTime}
	is := false
reading:
	for part, kid := range kidsOf(n, f.Op) {
		switch part {
		case partE:
			if f.E, is = readEntity(kid); !is {
				break reading
			}
		case partA:
			if f.A, is = readWord(kid); !is {
				break reading
			}
		case partOld:
			if f.Old, is = readTerm(kid); !is {
				break reading
			}
		case partV:
			if f.V, is = readTerm(kid); !is {
				break reading
			}
		case partSpan:
			if f.From, f.To, is = readSpan(kid); !is {
				break reading
			}
		}
	}
	if !is || !mayBe(f) {
		return api.Form{}, api.ErrForm
	}
	return f, api.OK
}

func readEntity(n api.Node) (api.Entity, bool) {
	switch n.Kind {
	case api.NodeValue:
		return api.Entity{Kind: api.EntNumber, N: n.V.N}, n.V.Kind == api.KRef
	case api.NodeName:
		return api.Entity{Kind: api.EntTemp, Name: n.S}, true
	}
	if n.Kind != api.NodeVec || len(n.Kids) != 2 {
		return api.Entity{}, false
	}
	name, is := readWord(n.Kids[0])
	return api.Entity{Kind: api.EntLook, Name: name, V: n.Kids[1].V}, is && n.Kids[1].Kind == api.NodeValue
}

func readTerm(n api.Node) (api.Term, bool) {
	if n.Kind == api.NodeValue && n.V.Kind != api.KRef {
		return api.Term{V: n.V}, true
	}
	x, is := readEntity(n)
	return api.Term{IsEnt: true, E: x}, is
}

func readWord(n api.Node) (string, bool) {
	return n.V.S, n.V.Kind == api.KWord
}

func readSpan(n api.Node) (from, to int64, is bool) {
	if n.Kind != api.NodeVec || len(n.Kids) != 2 {
		return 0, 0, false
	}
	a, b := n.Kids[0].V, n.Kids[1].V
	return a.N, b.N, a.Kind == api.KTime && b.Kind == api.KTime
}
