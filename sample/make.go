package sample

import (
	"math"
	"strings"

	"spinney/api"
)

// Num is a number.
func Num(n int64) api.Value { return api.Value{Kind: api.VInt, Num: n} }

// Bool is a truth: 0 or 1.
func Bool(n int64) api.Value { return api.Value{Kind: api.VBool, Num: n} }

// Str is a text.
func Str(s string) api.Value { return api.Value{Kind: api.VStr, Text: s} }

// List is a list of items.
func List(items ...api.Value) api.Value { return api.Value{Kind: api.VList, Items: items} }

// Set is a set of items; nobody asks whether they rise.
func Set(items ...api.Value) api.Value { return api.Value{Kind: api.VSet, Items: items} }

// Map is a map of keys and values by turns; nobody asks whether the keys rise.
func Map(items ...api.Value) api.Value { return api.Value{Kind: api.VMap, Items: items} }

// Nested is a value within n lists.
func Nested(n int, v api.Value) api.Value {
	for range n {
		v = List(v)
	}
	return v
}

// Numbers are the numbers from 0 to n - 1.
func Numbers(n int) []api.Value {
	out := make([]api.Value, n)
	for i := range out {
		out[i] = Num(int64(i))
	}
	return out
}

// Wrongs are values that are not right, each for one reason alone.
func Wrongs() []api.Value {
	return []api.Value{
		{Kind: -1}, {Kind: 7}, {Num: 1}, {Text: "a"}, {Items: Numbers(1)}, Bool(2), Bool(-1),
		{Kind: api.VStr, Num: 1}, {Kind: api.VInt, Text: "a"}, {Kind: api.VInt, Items: Numbers(1)}, {Kind: api.VList, Num: 1},
		Str("\xff"), Str("\xed\xa0\x80"), Str("\xf4\x90\x80\x80"), Str(strings.Repeat("a", api.MaxText+1)),
		Set(Num(2), Num(1)), Set(Num(1), Num(1)), Map(Num(1)), Map(Num(2), Num(0), Num(1), Num(0)), Map(Num(1), Num(0), Num(1), Num(5)),
		List(Num(1), Bool(2)), Map(Num(1), List(Str("\xff"))), Map(Bool(2), Num(1)),
		Nested(api.MaxDeep+1, Num(1)), List(Numbers(api.MaxParts)...), Nested(5000, Num(1)),
	}
}

// Beyond are numbers that pick no row of a table whose last row is that one.
func Beyond(last int) []int {
	return []int{-1, last + 1, last + 2, -last - 1, 1 << 32, -1 << 32, math.MinInt, math.MaxInt}
}
