package rrb

import "slices"

// first is a tree of a tree's first n items, nil of none; there are so many.
func first(top node, n int) node {
	if n == 0 {
		return nil
	}
	return lowered(head(top, n))
}

// rest is a tree of all but a tree's first n items; there are more than n.
func rest(top node, n int) node { return lowered(tail(top, n)) }

// head is a node's first items, so many, one at least, in a node of its height; it is cut at its right edge alone, where nodes may be short.
func head(n node, size int) node {
	if size == n.size() {
		return n
	}
	if l, ok := n.(*leaf); ok {
		return &leaf{l.items[:size:size]}
	}
	b := n.(*branch)
	at, place := b.find(size - 1)
	return above(slices.Concat(b.below[:at], []node{head(b.below[at], place+1)}))
}

// tail is all of a node from a place on that is there. Nodes at the left edge may not be short, so what is left of the node that is cut is joined with those behind it.
func tail(n node, from int) node {
	if from == 0 {
		return n
	}
	if l, ok := n.(*leaf); ok {
		end := len(l.items)
		return &leaf{l.items[from:end:end]}
	}
	b := n.(*branch)
	at, place := b.find(from)
	begun := tail(b.below[at], place)
	behind := b.below[at+1:]
	if len(behind) == 0 {
		return begun
	}
	return joined(begun, above(behind))
}
