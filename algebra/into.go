package algebra

import (
	"slices"

	"spinney/api"
	"spinney/value"
)

// intoSet makes a set of l ahead of the one of both: where members are there several times, both lists together may be longer than a call takes, though the set of them is right. If that of l alone is not right, that of both is neither.
func intoSet(v api.Value, l []api.Value) (api.Value, api.Errno) {
	more, e := value.Set(l)
	if e != api.OK {
		return api.Value{}, e
	}
	return value.Set(slices.Concat(v.Items, more.Items))
}

// intoMap makes a map of l first, as intoSet does with a set.
func intoMap(v api.Value, l []api.Value) (api.Value, api.Errno) {
	var pairs []api.Pair
	for _, member := range l {
		if member.Kind != api.VList || len(member.Items) != 2 {
			return api.Value{}, api.ErrArg
		}
		pairs = append(pairs, api.Pair{Key: member.Items[0], Val: member.Items[1]})
	}
	more, e := value.Map(pairs)
	if e != api.OK {
		return api.Value{}, e
	}
	return value.Map(slices.Concat(pairsOf(v), pairsOf(more)))
}

// pairsOf are the pairs of a right map.
func pairsOf(v api.Value) []api.Pair {
	pairs, _ := value.Pairs(v)
	return pairs
}
