// Package rule is no layer: it holds what the document's rules ask of many layers alike (R1's looks at arguments, R3's new memory), what chapter 1's limits leave room for, and how the last of several that are the same is taken.
package rule

import (
	"slices"
	"strings"

	"spinney/api"
)

// Row is the row of a table that a number picks: ErrKind, if there is none.
func Row[R any](table []R, number int) (R, api.Errno) {
	if number < 0 || number >= len(table) {
		var none R
		return none, api.ErrKind
	}
	return table[number], api.OK
}

// CheckAll tells what is wrong first in a list: that it is too long, or else what check finds in the first member that is not right.
func CheckAll[T any](l []T, check func(T) api.Errno) api.Errno {
	if len(l) > api.MaxLen {
		return api.ErrLong
	}
	for _, member := range l {
		if e := check(member); e != api.OK {
			return e
		}
	}
	return api.OK
}

// CheckPairs tells likewise what is wrong first in a list of pairs: of each the key is looked at ahead of the value.
func CheckPairs(l []api.Pair, check func(api.Value) api.Errno) api.Errno {
	return CheckAll(l, func(p api.Pair) api.Errno {
		if e := check(p.Key); e != api.OK {
			return e
		}
		return check(p.Val)
	})
}

// LastOfEach is a new list, sorted, that has of those that compare as the same the last one alone; its members still share with l what they hold.
func LastOfEach[T any](l []T, compare func(a, b T) int) []T {
	all := slices.Clone(l)
	// Stable, so that the last of those that are the same stays last.
	slices.SortStableFunc(all, compare)
	var out []T
	for i, member := range all {
		if i+1 < len(all) && compare(member, all[i+1]) == 0 {
			continue
		}
		out = append(out, member)
	}
	return out
}

// Fits tells whether a value keeps to MaxParts and MaxDeep. What is put together of right parts in their one form is right, if it does.
func Fits(v api.Value) bool {
	left := api.MaxParts
	return fitsWithin(v, api.MaxDeep, &left)
}

// fitsWithin gives up at the first part too many, so that a value far beyond the limits costs no more than one within them.
func fitsWithin(v api.Value, levels int, left *int) bool {
	if levels < 0 || *left == 0 {
		return false
	}
	*left--
	for _, item := range v.Items {
		if !fitsWithin(item, levels-1, left) {
			return false
		}
	}
	return true
}

// Copy is the same value in memory of its own, down to its last part.
func Copy(v api.Value) api.Value {
	return api.Value{Kind: v.Kind, Num: v.Num, Text: strings.Clone(v.Text), Items: CopyAll(v.Items)}
}

// CopyAll are the same values in memory of their own, without room to spare.
func CopyAll(l []api.Value) []api.Value {
	if len(l) == 0 {
		return nil
	}
	out := make([]api.Value, len(l))
	for i, v := range l {
		out[i] = Copy(v)
	}
	return out
}
