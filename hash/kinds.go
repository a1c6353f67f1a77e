package hash

import (
	"cmp"

	"spinney/api"
)

const (
	lastLow  = 31 // of the kinds that keep the lowest bits
	constant = 32 // the kind that keeps none

	groupBits = 5
	lastGroup = 6 // has but the two bits that are left
)

func isKind(kind int) bool { return kind >= 0 && kind <= api.MaxHash }

// cut is what a kind that there is leaves of a full hash.
func cut(kind int, full uint32) uint32 {
	switch {
	case kind == 0:
		return full
	case kind <= lastLow:
		return full & (1<<kind - 1)
	case kind == constant:
		return 0
	}
	lost := 32 - (kind - constant)
	return full >> lost << lost
}

func group(h uint32, i int) int { return int(h >> (groupBits * i) & (1<<groupBits - 1)) }

// compareHashes tells how two hashes stand in trie order: the first group that is not the same says it.
func compareHashes(a, b uint32) int {
	for i := range lastGroup + 1 {
		if c := cmp.Compare(group(a, i), group(b, i)); c != 0 {
			return c
		}
	}
	return 0
}
