package sample

import (
	"slices"

	"spinney/api"
	"spinney/hash"
)

// What chapter 7 says of a trie: how many places a node has, the depth at which no bit of a hash is left.
const (
	places = 32
	bottom = 7
)

// InTrieOrder are the same values in trie order of a kind of hash.
func InTrieOrder(kind int, l []api.Value) []api.Value {
	out := slices.Clone(l)
	slices.SortStableFunc(out, func(a, b api.Value) int { return CompareInTrie(kind, a, b) })
	return out
}

// CompareInTrie is below 0 if one value stands ahead of another one in trie order, above 0 if behind it.
func CompareInTrie(kind int, a, b api.Value) int {
	if ahead, _ := hash.Before(kind, a, b); ahead {
		return -1
	}
	if behind, _ := hash.Before(kind, b, a); behind {
		return 1
	}
	return 0
}

// Shape is the shape that chapter 7 gives a trie of keys, no two of them the same, worked out from their hashes alone.
func Shape(kind int, keys []api.Value) []api.Shape {
	hashes := make([]uint32, len(keys))
	for i, k := range keys {
		hashes[i], _ = hash.Of(kind, k)
	}
	return shapeOf(hashes, 0)
}

func shapeOf(hashes []uint32, depth int) []api.Shape {
	top := api.Shape{Depth: depth}
	if depth == bottom {
		top.Members = len(hashes)
		return []api.Shape{top}
	}
	var groups [places][]uint32
	for _, h := range hashes {
		place := h >> (5 * depth) % places
		groups[place] = append(groups[place], h)
	}
	var below []api.Shape
	for place, group := range groups {
		switch {
		case len(group) == 1:
			top.Data |= 1 << place
			top.Members++
		case len(group) > 1:
			top.Nodes |= 1 << place
			below = append(below, shapeOf(group, depth+1)...)
		}
	}
	return append([]api.Shape{top}, below...)
}
