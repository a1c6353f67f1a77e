package finger

import (
	"slices"

	"spinney/api"
)

// measure is how many items something has, and how heavy they are together. Chapter 18 says what an item weighs; it is kept here, in all trees and nodes, so that a place is found by it without going over the items.
type measure struct {
	items  int
	weight int64
}

// Len is how many items they are.
func (m measure) Len() int { return m.items }

// Weight is how heavy they are.
func (m measure) Weight() int64 { return m.weight }

// measured is the measure of what embeds it.
func (m measure) measured() measure { return m }

func (m measure) and(more measure) measure {
	return measure{items: m.items + more.items, weight: m.weight + more.weight}
}

func measureOf(x api.Value) measure {
	if x.Kind == api.VInt && x.Num >= 0 && x.Num <= api.MaxLen {
		return measure{items: 1, weight: x.Num}
	}
	return measure{items: 1, weight: 1}
}

// part is what trees are made of: leaves on the first level, and on each further one nodes of parts of the level ahead. All that a tree asks of it is told by its methods, so that it need not know on which level it is. Deques share parts, so none is changed once it is made.
type part[T any] interface {
	Part
	measured() measure
	// below are the parts that a node is made of, two or three; a leaf has none.
	below() []part[T]
	// item is the item in a place that is there.
	item(i int) T
	// with is the part with another leaf in a place that is there.
	with(i int, x part[T]) part[T]
	// each goes over the items, and tells whether yield wants to go on.
	each(yield func(T) bool) bool
}

// leaf is an item.
type leaf[T any] struct {
	measure
	kept T
}

func (l *leaf[T]) below() []part[T]                  { return nil }
func (l *leaf[T]) item(int) T                        { return l.kept }
func (l *leaf[T]) with(_ int, x part[T]) part[T]     { return x }
func (l *leaf[T]) each(yield func(item T) bool) bool { return yield(l.kept) }

// node is some parts of one level.
type node[T any] struct {
	measure
	parts []part[T]
}

func nodeOf[T any](parts []part[T]) *node[T] { return &node[T]{measure: total(parts), parts: parts} }

func (n *node[T]) below() []part[T] { return n.parts }

func (n *node[T]) item(i int) T { return itemOf(n.parts, i) }

func (n *node[T]) with(i int, x part[T]) part[T] { return nodeOf(replaced(n.parts, i, x)) }

func (n *node[T]) each(yield func(T) bool) bool { return eachOf(n.parts, yield) }

// nodes are parts of one level, two at least, put together into as few nodes as can be.
func nodes[T any](parts []part[T]) []part[T] {
	var out []part[T]
	for len(parts) > 0 {
		n := 3
		if len(parts) == 2 || len(parts) == 4 {
			n = 2
		}
		// Each node has memory of its own, lest one of them keep the parts of all.
		out = append(out, nodeOf(slices.Clone(parts[:n])))
		parts = parts[n:]
	}
	return out
}

func total[T any](parts []part[T]) measure {
	var m measure
	for _, p := range parts {
		m = m.and(p.measured())
	}
	return m
}

// find is which of some parts has an item, and the item's place in that part.
func find[T any](parts []part[T], i int) (at, place int) {
	for i >= parts[at].Len() {
		i -= parts[at].Len()
		at++
	}
	return at, i
}

func itemOf[T any](parts []part[T], i int) T {
	at, place := find(parts, i)
	return parts[at].item(place)
}

// replaced are new parts, with another leaf in a place of theirs.
func replaced[T any](parts []part[T], i int, x part[T]) []part[T] {
	at, place := find(parts, i)
	out := slices.Clone(parts)
	out[at] = parts[at].with(place, x)
	return out
}

func eachOf[T any](parts []part[T], yield func(T) bool) bool {
	for _, p := range parts {
		if !p.each(yield) {
			return false
		}
	}
	return true
}
