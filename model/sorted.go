package model

import (
	"slices"

	"spinney/api"
	"spinney/order"
	"spinney/redblack"
	"spinney/sample"
	"spinney/value"
)

// InOrder are pairs by an order of their keys.
func InOrder(by int, l []api.Pair) []api.Pair {
	out := slices.Clone(l)
	slices.SortStableFunc(out, func(a, b api.Pair) int {
		c, _ := order.Compare(by, a.Key, b.Key)
		return c
	})
	return out
}

// Parted are pairs by an order of their keys, in three lists: those whose keys stand ahead of a key, the one that has it, if there is one, and those whose keys stand behind it.
func Parted(by int, l []api.Pair, k api.Value) (ahead, same, behind []api.Pair) {
	for _, p := range InOrder(by, l) {
		switch c, _ := order.Compare(by, p.Key, k); {
		case c < 0:
			ahead = append(ahead, p)
		case c > 0:
			behind = append(behind, p)
		default:
			same = append(same, p)
		}
	}
	return ahead, same, behind
}

// WrongOfSorted is the call by which a sorted map tells otherwise than pairs of unlike keys, and an order, ask for, or its height is none that it may have; "" if there is none.
func WrongOfSorted(m *redblack.Map, by int, plain []api.Pair) string {
	want := InOrder(by, plain)
	switch {
	case m.Order() != by:
		return "Order"
	case m.Len() != len(want):
		return "Len"
	case !sample.SamePairs(m.Pairs(), want):
		return "Pairs"
	case !sample.SamePairs(gone(m.All()), want):
		return "All"
	case !slices.EqualFunc(want, Keys(want), got(m.Get)):
		return "Get"
	case !FlatFits(len(want), m.Height()):
		return "Height"
	case !sameValue(value.Map(want))(m.Value()):
		return "Value"
	}
	return ""
}

// FlatFits tells whether a sorted map of n keys may have so many levels: at most 2 log2(n + 1), held against n itself lest anything be rounded, so that it is flat, too; and enough of them for nodes that have two below them.
func FlatFits(n, levels int) bool {
	if levels < 0 || levels > 60 {
		return false
	}
	return n < 1<<levels && 1<<levels <= (n+1)*(n+1)
}
