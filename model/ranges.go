package model

import (
	"slices"

	"spinney/api"
	"spinney/ranges"
	"spinney/redblack"
	"spinney/sample"
)

// WrongOfRanges is the call of package ranges by which a sorted map, asked for all its places and for some keys, tells otherwise than pairs of unlike keys, and an order, ask for; "" if there is none.
func WrongOfRanges(m *redblack.Map, by int, plain []api.Pair, keys []api.Value) string {
	want := InOrder(by, plain)
	turned := slices.Clone(want)
	slices.Reverse(turned)
	switch {
	case !sample.SamePairs(gone(ranges.Back(m)), turned):
		return "Back"
	case !samePair(ranges.First(m))(want, 0):
		return "First"
	case !samePair(ranges.Last(m))(turned, 0):
		return "Last"
	case !atAre(m, want):
		return "At"
	}
	for _, k := range keys {
		if wrong := wrongOfKey(m, by, want, k); wrong != "" {
			return wrong
		}
		for _, to := range keys {
			if wrong := wrongBetween(m, by, want, k, to); wrong != "" {
				return wrong
			}
		}
	}
	return ""
}

// samePair tells whether a pair is the one in a place of a list, or, beside a false, zero and in none.
func samePair(p api.Pair, there bool) func(l []api.Pair, i int) bool {
	return func(l []api.Pair, i int) bool {
		if i < 0 || i >= len(l) {
			return !there && sample.SamePairs([]api.Pair{p}, []api.Pair{{}})
		}
		return there && sample.SamePairs([]api.Pair{p}, l[i:i+1])
	}
}

// near tells likewise of a pair beside which an error might have come.
func near(p api.Pair, there bool, e api.Errno) func(l []api.Pair, i int) bool {
	return func(l []api.Pair, i int) bool { return e == api.OK && samePair(p, there)(l, i) }
}

// atAre tells whether a map has a list's pairs in their places, and nothing beside them.
func atAre(m *redblack.Map, want []api.Pair) bool {
	for i := -2; i < len(want)+2; i++ {
		p, e := ranges.At(m, i)
		if e != api.OK && e != api.ErrRange || !samePair(p, e == api.OK)(want, i) {
			return false
		}
	}
	return true
}

// wrongOfKey is the call that tells otherwise of one key alone.
func wrongOfKey(m *redblack.Map, by int, want []api.Pair, k api.Value) string {
	ahead, same, _ := Parted(by, want, k)
	n, upTo := len(ahead), len(ahead)+len(same)
	rank, e := ranges.Rank(m, k)
	switch {
	case rank != n || e != api.OK:
		return "Rank"
	case !near(ranges.Floor(m, k))(want, upTo-1):
		return "Floor"
	case !near(ranges.Ceil(m, k))(want, n):
		return "Ceil"
	case !near(ranges.Lower(m, k))(want, n-1):
		return "Lower"
	case !near(ranges.Higher(m, k))(want, upTo):
		return "Higher"
	}
	return ""
}

// wrongBetween is the call that tells otherwise of what lies between two keys, with either of them or not.
func wrongBetween(m *redblack.Map, by int, want []api.Pair, from, to api.Value) string {
	for with := range 4 {
		withFrom, withTo := with&1 != 0, with&2 != 0
		between := Between(by, want, from, to, withFrom, withTo)
		if l, e := ranges.Between(m, from, to, withFrom, withTo); e != api.OK || !sample.SamePairs(l, between) {
			return "Between"
		}
		if cut, e := ranges.Cut(m, from, to, withFrom, withTo); cut == nil || e != api.OK || WrongOfSorted(cut, by, between) != "" {
			return "Cut"
		}
	}
	return ""
}

// Between are the pairs, by an order, that stand behind a key and ahead of another one, and those that have one of these keys, if it counts.
func Between(by int, l []api.Pair, from, to api.Value, withFrom, withTo bool) []api.Pair {
	_, same, kept := Parted(by, l, from)
	if withFrom {
		kept = slices.Concat(same, kept)
	}
	kept, same, _ = Parted(by, kept, to)
	if withTo {
		kept = slices.Concat(kept, same)
	}
	return kept
}
