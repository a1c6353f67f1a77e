package paths

import (
	"slices"

	"spinney/api"
	"spinney/fns"
)

// isLeaf tells whether there are no steps into a value that lead to leaves: sets have parts, but are leaves themselves.
func isLeaf(v api.Value) bool {
	return v.Kind != api.VMap && v.Kind != api.VList || len(v.Items) == 0
}

// step is one into a map or a list: the key or the number that it goes by, and the place among the items that it leads to.
type step struct {
	by api.Value
	to int
}

// steps are all of them, in order.
func steps(v api.Value) []step {
	var out []step
	for i := range v.Items {
		switch {
		case v.Kind == api.VList:
			out = append(out, step{api.Value{Kind: api.VInt, Num: int64(i)}, i})
		case i%2 == 1:
			out = append(out, step{v.Items[i-1], i})
		}
	}
	return out
}

// leaves hands on the path of each leaf of a value that itself stands at a path.
func leaves(v api.Value, path []api.Value, found func([]api.Value)) {
	if isLeaf(v) {
		found(path)
		return
	}
	for _, s := range steps(v) {
		leaves(v.Items[s.to], slices.Concat(path, []api.Value{s.by}), found)
	}
}

// walk makes maps and lists anew, and shares the keys with v.
func walk(v api.Value, fn int) api.Value {
	if isLeaf(v) {
		// The function and the value were found right: there is no error.
		x, _ := fns.One(fn, v)
		return x
	}
	v.Items = slices.Clone(v.Items)
	for _, s := range steps(v) {
		v.Items[s.to] = walk(v.Items[s.to], fn)
	}
	return v
}

// merge makes maps that are in both anew, and shares all else with a and b.
func merge(a, b api.Value) api.Value {
	if a.Kind != api.VMap || b.Kind != api.VMap {
		return b
	}
	a.Items = slices.Clone(a.Items)
	for _, s := range steps(b) {
		// A map takes any key. Where it did not have it, a VNil lies under it now, and with that anything merges to itself.
		var i int
		a, i, _ = opened(a, s.by)
		a.Items[i] = merge(a.Items[i], b.Items[s.to])
	}
	return a
}
