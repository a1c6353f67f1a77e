package sample

import (
	"math"
	"slices"

	"spinney/api"
)

// Lines are for each order of chapter 6 values that rise by it, worked out by hand.
func Lines() [][]api.Value {
	none := api.Value{}
	mixed := []api.Value{
		none, Bool(0), Bool(1), Num(math.MinInt64), Num(-1), Num(0), Num(math.MaxInt64), Str(""), Str("a"), Str("aa"), Str("b"), Str("é"),
		List(), List(Num(1)), List(Num(2)), Set(), Set(Num(1)), Map(), Map(Num(1), Num(2)),
	}
	turned := slices.Clone(mixed)
	slices.Reverse(turned)
	return [][]api.Value{
		mixed,
		turned,
		// Their hashes are 0, 0, 0, 1231, 1237, 1392991556, 1455541201, 1651860712, 2277397642, 3323962100, 4279838538, 4279838538.
		{none, Num(0), Str(""), Bool(1), Bool(0), Num(1), Str("a"), Num(-1), List(), Num(2), Set(), Map()},
		{none, Bool(1), Num(math.MinInt64), Num(math.MaxInt64), Str("zzzz"), List(), Map(), List(none), List(List()), Set(Num(1)), List(Num(1), Num(1)), Set(Num(1), Num(2)), List(none, none, none)},
		{Num(-5), Num(0), Num(3), Str(""), Str("b"), Str("é"), Str("𝄞"), Str("aa"), Str("éa"), Str("aaa"), List(Str("aa")), List(Str("b"))},
		{none, Num(0), Num(-1), Num(1), Num(-2), Num(2), Num(-math.MaxInt64), Num(math.MaxInt64), Num(math.MinInt64), Str("aa"), Str("b"), List(Num(-2)), List(Num(1))},
	}
}
