package value

import (
	"slices"
	"strings"

	"spinney/api"
)

// checkList tells what rule R1 finds wrong first in a list of values.
func checkList(l []api.Value) api.Errno {
	if len(l) > api.MaxLen {
		return api.ErrLong
	}
	for _, v := range l {
		if e := Check(v); e != api.OK {
			return e
		}
	}
	return api.OK
}

// checkPairs tells what rule R1 finds wrong first in a list of pairs.
func checkPairs(l []api.Pair) api.Errno {
	if len(l) > api.MaxLen {
		return api.ErrLong
	}
	for _, p := range l {
		if e := Check(p.Key); e != api.OK {
			return e
		}
		if e := Check(p.Val); e != api.OK {
			return e
		}
	}
	return api.OK
}

// sorted is a list of its own, rising; what its members hold is still shared with l.
func sorted(l []api.Value) []api.Value {
	out := slices.Clone(l)
	slices.SortFunc(out, Compare)
	return out
}

// lastOfEachKey are a map's items; they still share with l what they hold.
func lastOfEachKey(l []api.Pair) []api.Value {
	pairs := slices.Clone(l)
	// Stable, so that of one key's pairs the last one stays last.
	slices.SortStableFunc(pairs, compareKeys)
	var out []api.Value
	for i, p := range pairs {
		if i+1 < len(pairs) && Equal(p.Key, pairs[i+1].Key) {
			continue
		}
		out = append(out, p.Key, p.Val)
	}
	return out
}

func compareKeys(a, b api.Pair) int { return Compare(a.Key, b.Key) }

// made is a new value of right items in their one form. The limits are asked ahead of copying, since items may be far too many.
func made(kind int, items []api.Value) (api.Value, api.Errno) {
	v := api.Value{Kind: kind, Items: items}
	if !fits(v) {
		return api.Value{}, api.ErrLong
	}
	return copyOf(v), api.OK
}

// copyOf is the same value in memory of its own, down to its last part.
func copyOf(v api.Value) api.Value {
	return api.Value{Kind: v.Kind, Num: v.Num, Text: strings.Clone(v.Text), Items: copyAll(v.Items)}
}

func copyAll(l []api.Value) []api.Value {
	if len(l) == 0 {
		return nil
	}
	out := make([]api.Value, len(l))
	for i, v := range l {
		out[i] = copyOf(v)
	}
	return out
}
