package redblack

import (
	"slices"

	"spinney/api"
	"spinney/order"
	"spinney/rule"
	"spinney/value"
)

// checkOrder is ErrKind, if there is no such order.
func checkOrder(by int) api.Errno {
	_, e := order.Compare(by, api.Value{}, api.Value{})
	return e
}

// check is what rule R1 asks of an order and a list of pairs.
func check(by int, l []api.Pair) api.Errno {
	if e := checkOrder(by); e != api.OK {
		return e
	}
	return rule.CheckPairs(l, value.Check)
}

// byKeys tells how two pairs with right keys stand by an order.
func byKeys(by int) func(a, b api.Pair) int {
	return func(a, b api.Pair) int {
		c, _ := order.Compare(by, a.Key, b.Key)
		return c
	}
}

// sorted are right pairs by an order of their keys, of several of one key the last one; they still share with l what they hold. Package order sorts all keys at once, lest it look at each of them again whenever two are compared.
func sorted(by int, l []api.Pair) []api.Pair {
	last := rule.LastOfEach(l, func(a, b api.Pair) int { return natural(a, b.Key) })
	var keys []api.Value
	for _, p := range last {
		keys = append(keys, p.Key)
	}
	keys, _ = order.Sort(by, keys)
	var out []api.Pair
	for _, k := range keys {
		at, _ := slices.BinarySearchFunc(last, k, natural)
		out = append(out, last[at])
	}
	return out
}

// natural tells how a pair's key stands to another one in natural order.
func natural(p api.Pair, k api.Value) int { return value.Compare(p.Key, k) }

// rising tells whether each key stands behind the one ahead.
func rising(l []api.Pair, compare func(a, b api.Pair) int) bool {
	for i := 1; i < len(l); i++ {
		if compare(l[i-1], l[i]) >= 0 {
			return false
		}
	}
	return true
}

// copies are the same pairs in memory of their own.
func copies(l []api.Pair) []api.Pair {
	out := make([]api.Pair, len(l))
	for i, p := range l {
		out[i] = copied(p)
	}
	return out
}

func copied(p api.Pair) api.Pair { return api.Pair{Key: rule.Copy(p.Key), Val: rule.Copy(p.Val)} }

func samePair(a, b api.Pair) bool { return value.Equal(a.Key, b.Key) && value.Equal(a.Val, b.Val) }
