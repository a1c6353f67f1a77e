package redblack

import (
	"iter"
	"math/bits"
)

// node is a node of a red-black tree, and the whole tree from it down (nil of an empty one): no red node has a red one below it, and on each way down stand as many black ones. Maps share nodes, so none is changed once it is made.
type node[T any] struct {
	left, right *node[T]
	item        T
	red         bool
	measures
}

// measures are how many items a tree has, how many nodes stand on its longest way down, and how many black ones on each way.
type measures struct {
	size, high, blacks int
}

func (n *node[T]) measured() measures {
	if n == nil {
		return measures{}
	}
	return n.measures
}

func (n *node[T]) isRed() bool { return n != nil && n.red }

// made is a node over two trees with as many black nodes on their ways down.
func made[T any](red bool, left *node[T], item T, right *node[T]) *node[T] {
	l, r := left.measured(), right.measured()
	m := measures{size: l.size + 1 + r.size, high: 1 + max(l.high, r.high), blacks: l.blacks}
	if !red {
		m.blacks++
	}
	return &node[T]{left: left, right: right, item: item, red: red, measures: m}
}

// black is the same tree with a black node at its top.
func (n *node[T]) black() *node[T] {
	if !n.isRed() {
		return n
	}
	return made(false, n.left, n.item, n.right)
}

// grown is a tree of items in their order. All its levels are full but the last one: that one's nodes are red unless it is full, too, so that each way down has as many black ones.
func grown[T any](items []T) *node[T] {
	full := bits.Len(uint(len(items)+1)) - 1
	return grownOver(items, full)
}

// grownOver is likewise a tree with so many full levels.
func grownOver[T any](items []T, full int) *node[T] {
	if len(items) == 0 {
		return nil
	}
	half := len(items) / 2
	return made(full == 0, grownOver(items[:half], full-1), items[half], grownOver(items[half+1:], full-1))
}

// find is the node of the item that is looked for, nil if there is none. Here and below, at tells whether that item stands ahead of another one (below 0), is it (0), or stands behind it.
func (n *node[T]) find(at func(T) int) *node[T] {
	for n != nil {
		c := at(n.item)
		if c == 0 {
			return n
		}
		if c < 0 {
			n = n.left
		} else {
			n = n.right
		}
	}
	return nil
}

// with is the tree with an item, in place of one that is the same.
func (n *node[T]) with(item T, at func(T) int) *node[T] {
	ahead, behind := n.split(at)
	return join(ahead, item, behind)
}

// without is the tree without an item.
func (n *node[T]) without(at func(T) int) *node[T] {
	return together(n.split(at))
}

// union is a tree of the items of two; of those that are the same the second one's.
func union[T any](a, b *node[T], compare func(a, b T) int) *node[T] {
	if a == nil {
		return b
	}
	if b == nil {
		return a
	}
	ahead, behind := a.split(func(item T) int { return compare(b.item, item) })
	return join(union(ahead, b.left, compare), b.item, union(behind, b.right, compare))
}

// less is a tree of the first one's items that are not in the second one.
func less[T any](a, b *node[T], compare func(a, b T) int) *node[T] {
	if a == nil || b == nil {
		return a
	}
	ahead, behind := a.split(func(item T) int { return compare(b.item, item) })
	return together(less(ahead, b.left, compare), less(behind, b.right, compare))
}

// all goes over the items in their order.
func (n *node[T]) all() iter.Seq[T] {
	return func(yield func(T) bool) { n.each(yield) }
}

// each tells whether yield wants to go on.
func (n *node[T]) each(yield func(T) bool) bool {
	return n == nil || n.left.each(yield) && yield(n.item) && n.right.each(yield)
}
