package rrb

import (
	"slices"

	"spinney/api"
)

// joined is a tree of the items of two trees, nil for one that has none.
func joined(a, b node) node {
	switch {
	case a == nil:
		return b
	case b == nil:
		return a
	}
	return lowered(above(beside(a, b, height(a), height(b))))
}

// lowered is what lies below branches that have one node alone below them.
func lowered(n node) node {
	if b, ok := n.(*branch); ok && len(b.below) == 1 {
		return lowered(b.below[0])
	}
	return n
}

// beside are one or two nodes of the items of two trees, as high as the higher one. Only the first tree's right edge and the second one's left edge are made anew; all else is shared.
func beside(a, b node, highA, highB int) []node {
	high := max(highA, highB)
	if high == 1 {
		return leaves(fit(a.(*leaf).items, b.(*leaf).items))
	}
	var ahead, behind []node
	if highA == high {
		below := a.(*branch).below
		last := len(below) - 1
		ahead, a = below[:last], below[last]
	}
	if highB == high {
		below := b.(*branch).below
		b, behind = below[0], below[1:]
	}
	middle := beside(a, b, min(highA, high-1), min(highB, high-1))
	last := len(middle) - 1
	return branches(fit(slices.Concat(ahead, middle[:last]), slices.Concat(middle[last:], behind)))
}

// fit are the entries of two lists as those of one node, or of two. The second list may be shorter than fewest at the right edge alone, and stays there; of both lists together each half has enough.
func fit[T any](a, b []T) [][]T {
	n := len(a) + len(b)
	switch {
	case n <= places:
		return [][]T{slices.Concat(a, b)}
	case len(a) >= fewest:
		return [][]T{a, b}
	}
	both := slices.Concat(a, b)
	return [][]T{both[: n/2 : n/2], both[n/2 : n : n]}
}

func leaves(lists [][]api.Value) []node {
	var out []node
	for _, l := range lists {
		out = append(out, &leaf{l})
	}
	return out
}

func branches(lists [][]node) []node {
	var out []node
	for _, l := range lists {
		out = append(out, above(l))
	}
	return out
}
