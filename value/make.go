package value

import (
	"slices"

	"spinney/api"
	"spinney/rule"
)

// checkList tells what rule R1 finds wrong first in a list of values.
func checkList(l []api.Value) api.Errno { return rule.CheckAll(l, Check) }

// sorted is a list of its own, rising; what its members hold is still shared with l.
func sorted(l []api.Value) []api.Value {
	out := slices.Clone(l)
	slices.SortFunc(out, Compare)
	return out
}

// lastOfEachKey are a map's items; they still share with l what they hold.
func lastOfEachKey(l []api.Pair) []api.Value {
	var out []api.Value
	for _, p := range rule.LastOfEach(l, compareKeys) {
		out = append(out, p.Key, p.Val)
	}
	return out
}

func compareKeys(a, b api.Pair) int { return Compare(a.Key, b.Key) }

// made is a new value of right items in their one form. The limits are asked ahead of copying, since items may be far too many.
func made(kind int, items []api.Value) (api.Value, api.Errno) {
	v := api.Value{Kind: kind, Items: items}
	if !rule.Fits(v) {
		return api.Value{}, api.ErrLong
	}
	return rule.Copy(v), api.OK
}
