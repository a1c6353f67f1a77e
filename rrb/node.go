package rrb

import (
	"slices"

	"spinney/api"
)

const (
	// places is how many items, or nodes, a node has at most.
	places = 32
	// fewest is how many a node has at least, unless it is the top one or lies on the right edge of its tree. So a tree of h levels has at least fewest to the power of h - 1 items, which keeps it two levels below the height that the document allows.
	fewest = places / 2
)

// node is a node of a vector: a leaf or a branch. None is empty, and all leaves of a tree lie on one level; a branch at the top has two nodes below it at least. Vectors share nodes, so none is changed once it is made.
type node interface {
	// size is how many items lie in the node and below it.
	size() int
}

type leaf struct {
	items []api.Value
}

// branch has nodes below it, and for each of them how many items lie in it and in those ahead of it: nodes may have fewer items than they have room for, so that places cannot be told by reckoning alone.
type branch struct {
	below []node
	ends  []int
}

func (l *leaf) size() int { return len(l.items) }

func (b *branch) size() int { return b.ends[len(b.ends)-1] }

// above is a branch over nodes of one height.
func above(below []node) *branch {
	ends := make([]int, len(below))
	end := 0
	for i, n := range below {
		end += n.size()
		ends[i] = end
	}
	return &branch{below: below, ends: ends}
}

// find is which of the nodes below has an item, and the item's place in that node.
func (b *branch) find(i int) (at, place int) {
	at, _ = slices.BinarySearch(b.ends, i+1)
	if at == 0 {
		return 0, i
	}
	return at, i - b.ends[at-1]
}

// grown is a tree whose nodes are as full as can be; nil without an item. Each leaf has memory of its own, lest one of them keep the items of all.
func grown(items []api.Value) node {
	var level []node
	for l := range slices.Chunk(items, places) {
		level = append(level, &leaf{slices.Clone(l)})
	}
	if level == nil {
		return nil
	}
	for len(level) > 1 {
		var next []node
		for l := range slices.Chunk(level, places) {
			next = append(next, above(l))
		}
		level = next
	}
	return level[0]
}

// height is how many levels a tree has.
func height(n node) int {
	if b, ok := n.(*branch); ok {
		return 1 + height(b.below[0])
	}
	return 1
}

// item is the item in a place that is there.
func item(n node, i int) api.Value {
	if l, ok := n.(*leaf); ok {
		return l.items[i]
	}
	b := n.(*branch)
	at, place := b.find(i)
	return item(b.below[at], place)
}

// with is the tree with another item in a place that is there.
func with(n node, i int, x api.Value) node {
	if l, ok := n.(*leaf); ok {
		return &leaf{put(l.items, i, x)}
	}
	b := n.(*branch)
	at, place := b.find(i)
	return &branch{below: put(b.below, at, with(b.below[at], place, x)), ends: b.ends}
}

// put is a new list with another entry in a place.
func put[T any](l []T, i int, entry T) []T {
	out := slices.Clone(l)
	out[i] = entry
	return out
}

// each goes over the items from a place on that is there; it tells whether yield wants to go on.
func each(n node, from int, yield func(api.Value) bool) bool {
	if l, ok := n.(*leaf); ok {
		for _, x := range l.items[from:] {
			if !yield(x) {
				return false
			}
		}
		return true
	}
	b := n.(*branch)
	at, place := b.find(from)
	for _, below := range b.below[at:] {
		if !each(below, place, yield) {
			return false
		}
		place = 0
	}
	return true
}
