// Package model is no layer: for the project's tests it tells what plain lists of pairs, of members and of items would tell (P2), and in what a collection tells otherwise.
package model

import (
	"slices"

	"spinney/api"
	"spinney/sample"
)

// Find is where a key stands in a list of pairs, -1 if it does not.
func Find(l []api.Pair, k api.Value) int {
	return slices.IndexFunc(l, func(p api.Pair) bool { return sample.Same(p.Key, k) })
}

// Put is a new list of pairs in which a key has a value.
func Put(l []api.Pair, k, v api.Value) []api.Pair {
	return append(Drop(l, k), api.Pair{Key: k, Val: v})
}

// PutAll is a new list of pairs in which the keys of others have their values, too.
func PutAll(l, others []api.Pair) []api.Pair {
	for _, p := range others {
		l = Put(l, p.Key, p.Val)
	}
	return l
}

// Drop is a new list of pairs without a key.
func Drop(l []api.Pair, k api.Value) []api.Pair {
	out := slices.Clone(l)
	if i := Find(out, k); i >= 0 {
		return slices.Delete(out, i, i+1)
	}
	return out
}

// Keys are the keys of pairs, in their order.
func Keys(l []api.Pair) []api.Value {
	var out []api.Value
	for _, p := range l {
		out = append(out, p.Key)
	}
	return out
}

// InTrieOrder are pairs in trie order of a kind of hash.
func InTrieOrder(kind int, l []api.Pair) []api.Pair {
	out := slices.Clone(l)
	slices.SortStableFunc(out, func(a, b api.Pair) int { return sample.CompareInTrie(kind, a.Key, b.Key) })
	return out
}
