// Package value is layer 1: see shared/doc/01-value.md.
package value

import (
	"cmp"
	"slices"

	"spinney/api"
	"spinney/rule"
)

// Check tells whether a value is right.
func Check(v api.Value) api.Errno {
	if rule.Fits(v) && rightParts(v) {
		return api.OK
	}
	return api.ErrValue
}

// Compare is below 0, 0 or above 0, as a value stands ahead of another one, is it, or stands behind it.
func Compare(a, b api.Value) int {
	if a.Kind != b.Kind {
		return cmp.Compare(a.Kind, b.Kind)
	}
	switch a.Kind {
	case api.VBool, api.VInt:
		return cmp.Compare(a.Num, b.Num)
	case api.VStr:
		return cmp.Compare(a.Text, b.Text)
	case api.VList, api.VSet, api.VMap:
		return slices.CompareFunc(a.Items, b.Items, Compare)
	}
	return 0
}

// Equal tells whether two values are the same.
func Equal(a, b api.Value) bool { return Compare(a, b) == 0 }

// Set is a set of values.
func Set(l []api.Value) (api.Value, api.Errno) {
	if e := checkList(l); e != api.OK {
		return api.Value{}, e
	}
	return made(api.VSet, slices.CompactFunc(sorted(l), Equal))
}

// Map is a map of pairs; of several of one key the last one counts.
func Map(l []api.Pair) (api.Value, api.Errno) {
	if e := rule.CheckPairs(l, Check); e != api.OK {
		return api.Value{}, e
	}
	return made(api.VMap, lastOfEachKey(l))
}

// List is a list of values.
func List(l []api.Value) (api.Value, api.Errno) {
	if e := checkList(l); e != api.OK {
		return api.Value{}, e
	}
	return made(api.VList, l)
}

// Sort are values, rising, as many as there are.
func Sort(l []api.Value) ([]api.Value, api.Errno) {
	if e := checkList(l); e != api.OK {
		return nil, e
	}
	return rule.CopyAll(sorted(l)), api.OK
}

// Parts is how many parts a value has, Deep how deep it is.
func Parts(v api.Value) (int, api.Errno) {
	if e := Check(v); e != api.OK {
		return 0, e
	}
	return countParts(v), api.OK
}

// Deep is how deep a value is.
func Deep(v api.Value) (int, api.Errno) {
	if e := Check(v); e != api.OK {
		return 0, e
	}
	return depth(v), api.OK
}

// Pairs are a map's pairs.
func Pairs(v api.Value) ([]api.Pair, api.Errno) {
	if e := Check(v); e != api.OK {
		return nil, e
	}
	if v.Kind != api.VMap {
		return nil, api.ErrArg
	}
	var out []api.Pair
	for i := 0; i < len(v.Items); i += 2 {
		out = append(out, api.Pair{Key: rule.Copy(v.Items[i]), Val: rule.Copy(v.Items[i+1])})
	}
	return out, api.OK
}
