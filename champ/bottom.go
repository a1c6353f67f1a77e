package champ

import (
	"slices"

	"spinney/api"
	"spinney/value"
)

// blockFull is at how many members a block is cut in two.
const blockFull = 256

// blocks are the members of a node at the bottom, in natural order; there is one at least, and none is empty. They are blocks lest each change copy all members, however many have one hash.
type blocks [][]*member

func blocksOf(l []*member) blocks {
	return slices.Collect(slices.Chunk(l, blockFull/2))
}

func (b blocks) size() int {
	n := 0
	for _, block := range b {
		n += len(block)
	}
	return n
}

// search is in which block, and where in it, a key stands, or would stand.
func (b blocks) search(k api.Value) (block, at int, there bool) {
	first, _ := slices.BinarySearchFunc(b, k, func(l []*member, k api.Value) int { return compareKey(l[len(l)-1], k) })
	block = min(first, len(b)-1)
	at, there = slices.BinarySearchFunc(b[block], k, compareKey)
	return block, at, there
}

func compareKey(m *member, k api.Value) int { return value.Compare(m.key, k) }

func (b blocks) find(k api.Value) *member {
	block, at, there := b.search(k)
	if !there {
		return nil
	}
	return b[block][at]
}

func (b blocks) with(m *member) blocks {
	block, at, there := b.search(m.key)
	end := at
	if there {
		end++
	}
	return b.changed(block, spliced(b[block], at, end, m))
}

func (b blocks) without(m *member) blocks {
	block, at, _ := b.search(m.key)
	return b.changed(block, spliced(b[block], at, at+1))
}

// changed has other members in a block; the block goes if it has none, and is cut in two if it is full.
func (b blocks) changed(block int, l []*member) blocks {
	switch len(l) {
	case 0:
		return spliced(b, block, block+1)
	case blockFull:
		return spliced(b, block, block+1, blocksOf(l)...)
	}
	return spliced(b, block, block+1, l)
}

// each tells whether yield wants to go on.
func (b blocks) each(yield func(*member) bool) bool {
	for _, block := range b {
		for _, m := range block {
			if !yield(m) {
				return false
			}
		}
	}
	return true
}
