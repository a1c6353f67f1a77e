package fns

import (
	"slices"

	"spinney/api"
	"spinney/rule"
	"spinney/value"
)

// stopAbove is the greatest sum at which TwoStop goes on.
const stopAbove = 100

// functionOfTwo is a row of the functions of two right values; stops is asked of what was made.
type functionOfTwo struct {
	apply func(a, b api.Value) api.Value
	stops func(v api.Value) bool
}

func functionsOfTwo() []functionOfTwo {
	return []functionOfTwo{
		api.TwoAdd:   {add, never},
		api.TwoMax:   {greater, never},
		api.TwoMin:   {lesser, never},
		api.TwoConj:  {conj, never},
		api.TwoLeft:  {left, never},
		api.TwoRight: {right, never},
		api.TwoStop:  {add, isGreatSum},
		api.TwoCount: {count, never},
	}
}

func add(a, b api.Value) api.Value {
	if !isInt(a) || !isInt(b) {
		return a
	}
	return number(a.Num + b.Num)
}

func greater(a, b api.Value) api.Value {
	if value.Compare(a, b) < 0 {
		return b
	}
	return a
}

func lesser(a, b api.Value) api.Value {
	if value.Compare(a, b) > 0 {
		return b
	}
	return a
}

func conj(a, b api.Value) api.Value {
	var items []api.Value
	if a.Kind == api.VList {
		items = a.Items
	}
	// Concat, since an append might write into the room behind a's items.
	longer := api.Value{Kind: api.VList, Items: slices.Concat(items, []api.Value{b})}
	if !rule.Fits(longer) {
		return a
	}
	return longer
}

func left(a, _ api.Value) api.Value { return a }

func right(_, b api.Value) api.Value { return b }

func isGreatSum(v api.Value) bool { return isInt(v) && v.Num > stopAbove }

func count(a, _ api.Value) api.Value {
	if !isInt(a) {
		return number(1)
	}
	return inc(a)
}
