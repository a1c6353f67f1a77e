package algebra

import (
	"cmp"
	"slices"

	"spinney/api"
	"spinney/fns"
	"spinney/value"
)

// keysBy are what a function makes of members, one by one.
func keysBy(fn int, l []api.Value) []api.Value {
	keys := make([]api.Value, len(l))
	for i, member := range l {
		// All of them were found right: there is no error.
		keys[i], _ = fns.One(fn, member)
	}
	return keys
}

// alike are the places of members that are the same, in one list for each: the least member's first, and the places of each rising.
func alike(l []api.Value) [][]int {
	places := make([]int, len(l))
	for i := range places {
		places[i] = i
	}
	slices.SortFunc(places, func(a, b int) int {
		return cmp.Or(value.Compare(l[a], l[b]), cmp.Compare(a, b))
	})
	var out [][]int
	for len(places) > 0 {
		n := 1
		for n < len(places) && value.Equal(l[places[0]], l[places[n]]) {
			n++
		}
		out = append(out, places[:n:n])
		places = places[n:]
	}
	return out
}

// picked are the members in some places; they still share with l what they hold.
func picked(l []api.Value, places []int) []api.Value {
	out := make([]api.Value, len(places))
	for i, place := range places {
		out[i] = l[place]
	}
	return out
}
