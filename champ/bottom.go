package champ

import (
	"slices"

	"spinney/api"
	"spinney/value"
)

// blockFull is at how many members a block is cut in two.
const blockFull = 256

// blocks are the members of a node at the bottom, in natural order; there is one at least, and none is empty. They are blocks lest each change copy all members, however many have one hash.
type blocks[V any] [][]*member[V]

func blocksOf[V any](l []*member[V]) blocks[V] {
	return slices.Collect(slices.Chunk(l, blockFull/2))
}

func (b blocks[V]) size() int {
	n := 0
	for _, block := range b {
		n += len(block)
	}
	return n
}

// search is in which block, and where in it, a key stands, or would stand.
func (b blocks[V]) search(k api.Value) (block, at int, there bool) {
	first, _ := slices.BinarySearchFunc(b, k, func(l []*member[V], k api.Value) int { return compareKey(l[len(l)-1], k) })
	block = min(first, len(b)-1)
	at, there = slices.BinarySearchFunc(b[block], k, compareKey[V])
	return block, at, there
}

func compareKey[V any](m *member[V], k api.Value) int { return value.Compare(m.key, k) }

func (b blocks[V]) find(k api.Value) *member[V] {
	block, at, there := b.search(k)
	if !there {
		return nil
	}
	return b[block][at]
}

func (b blocks[V]) with(m *member[V]) blocks[V] {
	block, at, there := b.search(m.key)
	end := at
	if there {
		end++
	}
	return b.changed(block, spliced(b[block], at, end, m))
}

func (b blocks[V]) without(m *member[V]) blocks[V] {
	block, at, _ := b.search(m.key)
	return b.changed(block, spliced(b[block], at, at+1))
}

// changed has other members in a block; the block goes if it has none, and is cut in two if it is full.
func (b blocks[V]) changed(block int, l []*member[V]) blocks[V] {
	switch len(l) {
	case 0:
		return spliced(b, block, block+1)
	case blockFull:
		return spliced(b, block, block+1, blocksOf(l)...)
	}
	return spliced(b, block, block+1, l)
}

// each tells whether yield wants to go on.
func (b blocks[V]) each(yield func(*member[V]) bool) bool {
	for _, block := range b {
		for _, m := range block {
			if !yield(m) {
				return false
			}
		}
	}
	return true
}
