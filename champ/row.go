package champ

import (
	"math/bits"
	"slices"
)

// row is what stands at some of a node's places: a bit for each place that has something, and what they have, by rising places.
type row[T any] struct {
	places uint32
	list   []*T
}

// index is where in the list a place's entry stands, or would stand.
func (r row[T]) index(place uint32) int { return bits.OnesCount32(r.places & (place - 1)) }

// at is what stands at a place, nil if nothing does.
func (r row[T]) at(place uint32) *T {
	if r.places&place == 0 {
		return nil
	}
	return r.list[r.index(place)]
}

// add lays an entry behind all others, at a place behind theirs; only for a row that nobody else has yet.
func (r *row[T]) add(place uint32, entry *T) {
	r.places |= place
	r.list = append(r.list, entry)
}

// put is the row with an entry at a place, or with nothing there for nil.
func (r row[T]) put(place uint32, entry *T) row[T] {
	from := r.index(place)
	to := from
	if r.places&place != 0 {
		to++
	}
	if entry != nil {
		return row[T]{places: r.places | place, list: spliced(r.list, from, to, entry)}
	}
	if from == to {
		return r
	}
	return row[T]{places: r.places &^ place, list: spliced(r.list, from, to)}
}

// spliced is a new list that has entries in place of those from one index up to another one.
func spliced[T any](l []T, from, to int, entries ...T) []T {
	return slices.Concat(l[:from], entries, l[to:])
}
