package finger

import (
	"slices"

	"spinney/api"
	"spinney/value"
)

// What this file exports is not chapter 17's own: layers above reach deques by exported functions alone, so what they need of the trees is told or done here.

// Part is a part of a deque: a tree, a node or an item.
type Part interface {
	// Len is how many items it has.
	Len() int
	// Weight is how heavy they are together, as chapter 18 weighs them.
	Weight() int64
	// Parts are the parts that it is made of, from its front on; an item is made of none, and so is a tree without an item.
	Parts() []Part
}

// Whole is the part with all items of a deque.
func (d *Deque) Whole() Part { return d.own().whole }

// Parts are none.
func (l *leaf[T]) Parts() []Part { return nil }

// Parts are the parts that it is made of.
func (n *node[T]) Parts() []Part { return told(nil, n.parts) }

// Parts are those at its front, the tree in its middle, and those at its back.
func (t *tree[T]) Parts() []Part {
	if t == nil {
		return nil
	}
	out := told(nil, t.front)
	if t.middle != nil {
		out = append(out, t.middle)
	}
	return told(out, t.back)
}

// told are parts laid behind others that are told ahead of them.
func told[T any](out []Part, parts []part[T]) []Part {
	for _, p := range parts {
		out = append(out, p)
	}
	return out
}

// Join is a deque of the items of all, one behind the other; ErrLong, if they are more than MaxLen.
func Join(l ...*Deque) (*Deque, api.Errno) {
	n := 0
	for _, d := range l {
		n += d.Len()
		if n > api.MaxLen {
			return nil, api.ErrLong
		}
	}
	out := New()
	for _, d := range l {
		out.whole = joined(out.whole, nil, d.own().whole)
	}
	return out, api.OK
}

// Cut is a deque of the first items, so many, and one of the others; ErrRange, if there are fewer, or they are to be fewer than none.
func (d *Deque) Cut(at int) (*Deque, *Deque, api.Errno) {
	switch {
	case at == d.Len():
		return &Deque{whole: d.own().whole}, New(), api.OK
	case !d.hasPlace(at):
		return nil, nil, api.ErrRange
	}
	head, x, tail := d.whole.cut(at)
	return &Deque{whole: head}, &Deque{whole: tail.withFront(x)}, api.OK
}

// Turned is a deque of the items the other way round.
func (d *Deque) Turned() *Deque {
	l := d.items()
	slices.Reverse(l)
	return &Deque{whole: grown(kept(l))}
}

// Same tells whether two deques have the same items in the same places.
func Same(a, b *Deque) bool { return slices.EqualFunc(a.items(), b.items(), value.Equal) }
