// Package rule is no layer: it holds what the document's rules ask of many layers alike (R1's looks at arguments, R3's new memory).
package rule

import (
	"strings"

	"spinney/api"
)

// Row is the row of a table that a number picks: ErrKind, if there is none.
func Row[R any](table []R, number int) (R, api.Errno) {
	if number < 0 || number >= len(table) {
		var none R
		return none, api.ErrKind
	}
	return table[number], api.OK
}

// CheckAll tells what is wrong first in a list: that it is too long, or else what check finds in the first member that is not right.
func CheckAll[T any](l []T, check func(T) api.Errno) api.Errno {
	if len(l) > api.MaxLen {
		return api.ErrLong
	}
	for _, member := range l {
		if e := check(member); e != api.OK {
			return e
		}
	}
	return api.OK
}

// Copy is the same value in memory of its own, down to its last part.
func Copy(v api.Value) api.Value {
	return api.Value{Kind: v.Kind, Num: v.Num, Text: strings.Clone(v.Text), Items: CopyAll(v.Items)}
}

// CopyAll are the same values in memory of their own, without room to spare.
func CopyAll(l []api.Value) []api.Value {
	if len(l) == 0 {
		return nil
	}
	out := make([]api.Value, len(l))
	for i, v := range l {
		out[i] = Copy(v)
	}
	return out
}
