package redblack

import (
	"spinney/api"
	"spinney/order"
)

// The calls of this file are not chapter 14's own: layers above reach sorted maps by exported functions alone, so what they need of the nodes is told or done here.

// Part is a node of a map with all that is below it. Its zero value has no node.
type Part struct {
	order int
	top   *node[api.Pair]
}

// Whole is the part with all pairs of a map.
func (m *Map) Whole() Part {
	own := m.own()
	return Part{order: own.order, top: own.top}
}

// Len is how many pairs it has.
func (p Part) Len() int { return p.top.measured().size }

// Ahead is the part of it that stands ahead of its node.
func (p Part) Ahead() Part {
	if p.top == nil {
		return p
	}
	return Part{order: p.order, top: p.top.left}
}

// Behind is the part of it that stands behind its node.
func (p Part) Behind() Part {
	if p.top == nil {
		return p
	}
	return Part{order: p.order, top: p.top.right}
}

// Pair is its node's pair, the zero pair if it has no node.
func (p Part) Pair() api.Pair {
	if p.top == nil {
		return api.Pair{}
	}
	return copied(p.top.item)
}

// Stand is below 0, 0, above 0, as a right key stands ahead of its node's key, is it, or stands behind it; 0, if it has no node.
func (p Part) Stand(k api.Value) int {
	if p.top == nil {
		return 0
	}
	c, _ := order.Compare(p.order, k, p.top.item.Key)
	return c
}

// Slice is a map of the pairs in the places from one on, up to the one ahead of another; only as many as there are.
func (m *Map) Slice(from, to int) *Map {
	own := m.own()
	head, _ := own.top.cut(to)
	_, between := head.cut(from)
	return own.of(between)
}

// Less is a map of a's keys that are not in b.
func Less(a, b *Map) *Map {
	own := a.own()
	other, _ := b.Turn(own.order)
	return own.of(less(own.top, other.top, byKeys(own.order)))
}
