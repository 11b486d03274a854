package tree

import "bytes"

// node is a pair, with the nodes of all lesser keys on its left, and those of all greater ones on its right; none is one of no pairs. Nobody writes to a node once it stands in a tree, so that trees may share it.
type node struct {
	pair        *Pair
	left, right *node
	size        int
}

// A side is too heavy if it weighs more than heavy times the other one; its inner half is then taken apart, unless that weighs less than twice its outer one. With just these two numbers one turn behind each put and cut is enough.
const (
	heavy = 3
	twice = 2
)

func (n *node) count() int {
	if n == nil {
		return 0
	}
	return n.size
}

func (n *node) weight() int { return n.count() + 1 }

// over is a copy of a node, with other ones on its sides.
func (n node) over(left, right *node) *node {
	n.left, n.right = left, right
	n.size = left.count() + 1 + right.count()
	return &n
}

// even is as over, but no side of it is too heavy, if neither was ahead of a put or a cut.
func (n node) even(left, right *node) *node {
	switch {
	case right.weight() > heavy*left.weight():
		return n.turnLeft(left, right)
	case left.weight() > heavy*right.weight():
		return n.turnRight(left, right)
	}
	return n.over(left, right)
}

func (n node) turnLeft(left, right *node) *node {
	inner, outer := right.left, right.right
	if inner.weight() < twice*outer.weight() {
		return right.over(n.over(left, inner), outer)
	}
	return inner.over(n.over(left, inner.left), right.over(inner.right, outer))
}

func (n node) turnRight(left, right *node) *node {
	outer, inner := left.left, left.right
	if inner.weight() < twice*outer.weight() {
		return left.over(outer, n.over(inner, right))
	}
	return inner.over(left.over(outer, inner.left), n.over(inner.right, right))
}

// put is a node with a pair, in place of the one of its key.
func (n *node) put(p *Pair) *node {
	if n == nil {
		return node{pair: p}.over(nil, nil)
	}
	switch c := bytes.Compare(p.Key, n.pair.Key); {
	case c < 0:
		return n.even(n.left.put(p), n.right)
	case c > 0:
		return n.even(n.left, n.right.put(p))
	}
	return node{pair: p}.over(n.left, n.right)
}

// cut is a node without the pair of a key.
func (n *node) cut(key []byte) *node {
	if n == nil {
		return nil
	}
	switch c := bytes.Compare(key, n.pair.Key); {
	case c < 0:
		return n.even(n.left.cut(key), n.right)
	case c > 0:
		return n.even(n.left, n.right.cut(key))
	}
	return joined(n.left, n.right)
}

// joined is a node of all pairs of two, of which the left one has the lesser keys; the one that weighs more gives the pair between.
func joined(left, right *node) *node {
	if left.count() > right.count() {
		last := left.at(left.count() - 1)
		return last.even(left.cut(last.pair.Key), right)
	}
	if right == nil {
		return nil
	}
	first := right.at(0)
	return first.even(left, right.cut(first.pair.Key))
}
