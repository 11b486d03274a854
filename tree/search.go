package tree

import (
	"bytes"
	"iter"
)

// find is the node of a key; none, if there is none.
func (n *node) find(key []byte) *node {
down:
	for n != nil {
		switch c := bytes.Compare(key, n.pair.Key); {
		case c < 0:
			n = n.left
			continue down
		case c > 0:
			n = n.right
			continue down
		}
		return n
	}
	return nil
}

// at is the node ahead of which so many others stand; none, if there is none.
func (n *node) at(i int) *node {
down:
	for n != nil {
		switch ahead := n.left.count(); {
		case i < ahead:
			n = n.left
			continue down
		case i > ahead:
			i -= ahead + 1
			n = n.right
			continue down
		}
		return n
	}
	return nil
}

// rank is how many keys stand ahead of one.
func (n *node) rank(key []byte) int {
	ahead := 0
down:
	for n != nil {
		if bytes.Compare(n.pair.Key, key) >= 0 {
			n = n.left
			continue down
		}
		ahead += n.left.count() + 1
		n = n.right
	}
	return ahead
}

// within is the node below which all pairs stand whose keys are behind lo's and ahead of hi's (where these are none: all).
func (n *node) within(lo, hi *node) *node {
down:
	for n != nil {
		switch {
		case lo != nil && bytes.Compare(n.pair.Key, lo.pair.Key) <= 0:
			n = n.right
			continue down
		case hi != nil && bytes.Compare(n.pair.Key, hi.pair.Key) >= 0:
			n = n.left
			continue down
		}
		return n
	}
	return nil
}

// has asks for a pair, with this value.
func (n *node) has(p *Pair) bool {
	m := n.find(p.Key)
	return m != nil && bytes.Equal(m.pair.Value, p.Value)
}

// told are the pairs from a key on, in order.
func (n *node) told(from []byte) iter.Seq[*Pair] {
	return func(yield func(*Pair) bool) { n.tell(from, yield) }
}

// tell yields the pairs from a key on, and answers whether more are asked for.
func (n *node) tell(from []byte, yield func(*Pair) bool) bool {
	if n == nil {
		return true
	}
	if bytes.Compare(n.pair.Key, from) < 0 {
		return n.right.tell(from, yield)
	}
	return n.left.tell(from, yield) && yield(n.pair) && n.right.tell(nil, yield)
}

// unlike are the pairs that another node has not so, in order.
func (n *node) unlike(other *node) iter.Seq[*Pair] {
	return func(yield func(*Pair) bool) { n.tellUnlike(other, nil, nil, yield) }
}

// tellUnlike yields the pairs that another node has not so, and answers whether more are asked for; all of n's keys stand behind lo's and ahead of hi's.
func (n *node) tellUnlike(other, lo, hi *node, yield func(*Pair) bool) bool {
	// A version shares most nodes with the one it was made of: what is shared is alike, and not gone through.
	beside := other.within(lo, hi)
	if n == nil || n == beside {
		return true
	}
	return n.left.tellUnlike(beside, lo, n, yield) &&
		(beside.has(n.pair) || yield(n.pair)) &&
		n.right.tellUnlike(beside, n, hi, yield)
}
