package claim

import "daybook/api"

// Write is a form's node.
func Write(f api.Form) (api.Node, api.Errno) {
	if !mayBe(f) {
		return api.Node{}, api.ErrForm
	}
	kids := []api.Node{nameNode(names[f.Op])}
	for _, part := range partsOf(f.Op) {
		switch part {
		case partE:
			kids = append(kids, entityNode(f.E))
		case partA:
			kids = append(kids, valueNode(wordOf(f.A)))
		case partOld:
			kids = append(kids, termNode(f.Old))
		case partV:
			kids = append(kids, termNode(f.V))
		case partSpan:
			if f.From > api.MinTime || f.To < api.MaxTime {
				kids = append(kids, pairNode(timeOf(f.From), timeOf(f.To)))
			}
		}
	}
	return api.Node{Kind: api.NodeList, Kids: kids}, api.OK
}

func entityNode(x api.Entity) api.Node {
	switch x.Kind {
	case api.EntNumber:
		return valueNode(refTo(x.N))
	case api.EntTemp:
		return nameNode(x.Name)
	}
	return pairNode(wordOf(x.Name), x.V)
}

func termNode(t api.Term) api.Node {
	if t.IsEnt {
		return entityNode(t.E)
	}
	return valueNode(t.V)
}

func nameNode(s string) api.Node { return api.Node{Kind: api.NodeName, S: s} }

func valueNode(v api.Value) api.Node { return api.Node{Kind: api.NodeValue, V: v} }

// pairNode is a vec of two values.
func pairNode(a, b api.Value) api.Node {
	return api.Node{Kind: api.NodeVec, Kids: []api.Node{valueNode(a), valueNode(b)}}
}
