package model

import (
	"slices"

	"spinney/api"
	"spinney/sample"
)

// Ints are pairs of numbers: a key, its value, a key, its value ..
func Ints(l ...int64) []api.Pair {
	var out []api.Pair
	for n := range slices.Chunk(l, 2) {
		out = append(out, api.Pair{Key: sample.Num(n[0]), Val: sample.Num(n[1])})
	}
	return out
}

// Numbered are the numbers from one on, so many, as keys of one value.
func Numbered(from, n int, v api.Value) []api.Pair {
	var out []api.Pair
	for i := range n {
		out = append(out, api.Pair{Key: sample.Num(int64(from + i)), Val: v})
	}
	return out
}

// Valued are keys with values that differ from key to key.
func Valued(keys []api.Value) []api.Pair {
	var out []api.Pair
	for i, k := range keys {
		out = append(out, api.Pair{Key: k, Val: sample.List(sample.Num(int64(i)), sample.Str("v"))})
	}
	return out
}

// Nested are pairs whose keys and values hold lists, in memory of their own.
func Nested() []api.Pair {
	num, list := sample.Num, sample.List
	return []api.Pair{
		{Key: list(num(1), list(num(2))), Val: list(num(3), list(num(4)))},
		{Key: sample.Map(num(1), list(num(5))), Val: sample.Set(list(num(6)), list(num(7)))},
		{Key: list(sample.Str("k"), num(8)), Val: list(num(9))},
	}
}
