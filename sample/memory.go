package sample

import (
	"slices"

	"spinney/api"
)

// What stands in room that nobody may write to, and what a test writes over memory.
const (
	spare  = "spare"
	spoilt = "spoilt"
)

// Same tells whether two values are the same in every field; lists that are nil or empty are the same, as rule R2 says.
func Same(a, b api.Value) bool {
	return a.Kind == b.Kind && a.Num == b.Num && a.Text == b.Text && SameAll(a.Items, b.Items)
}

// SameAll tells whether two lists have the same values.
func SameAll(a, b []api.Value) bool { return slices.EqualFunc(a, b, Same) }

// Roomy is the same value in memory of its own, with room to spare behind each list, filled with what must stay.
func Roomy(v api.Value) api.Value {
	v.Items = RoomyAll(v.Items)
	return v
}

// RoomyAll are the same values in memory of their own, with room to spare behind each list.
func RoomyAll(l []api.Value) []api.Value {
	if l == nil {
		return nil
	}
	out := make([]api.Value, 0, len(l)+3)
	for _, v := range l {
		out = append(out, Roomy(v))
	}
	room := out[len(out):cap(out)]
	for i := range room {
		room[i] = Str(spare)
	}
	return out
}

// RoomKept tells whether the room that RoomyAll made is as it was.
func RoomKept(l []api.Value) bool {
	for _, v := range l[len(l):cap(l)] {
		if !Same(v, Str(spare)) {
			return false
		}
	}
	for _, v := range l {
		if !RoomKept(v.Items) {
			return false
		}
	}
	return true
}

// Spoil writes over all memory that a list reaches, its spare room too.
func Spoil(l []api.Value) {
	l = l[:cap(l)]
	for i := range l {
		Spoil(l[i].Items)
		l[i] = Str(spoilt)
	}
}

// SamePairs tells whether two lists have the same pairs.
func SamePairs(a, b []api.Pair) bool {
	return slices.EqualFunc(a, b, func(a, b api.Pair) bool { return Same(a.Key, b.Key) && Same(a.Val, b.Val) })
}

// RoomyPairs are the same pairs in memory of their own, with room to spare behind each list.
func RoomyPairs(l []api.Pair) []api.Pair {
	if l == nil {
		return nil
	}
	out := make([]api.Pair, 0, len(l)+3)
	for _, p := range l {
		out = append(out, api.Pair{Key: Roomy(p.Key), Val: Roomy(p.Val)})
	}
	room := out[len(out):cap(out)]
	for i := range room {
		room[i] = api.Pair{Key: Str(spare), Val: Str(spare)}
	}
	return out
}

// PairRoomKept tells whether the room that RoomyPairs made is as it was.
func PairRoomKept(l []api.Pair) bool {
	for _, p := range l[len(l):cap(l)] {
		if !Same(p.Key, Str(spare)) || !Same(p.Val, Str(spare)) {
			return false
		}
	}
	for _, p := range l {
		if !RoomKept(p.Key.Items) || !RoomKept(p.Val.Items) {
			return false
		}
	}
	return true
}

// SpoilPairs writes over all memory that a list of pairs reaches, its spare room too.
func SpoilPairs(l []api.Pair) {
	l = l[:cap(l)]
	for i := range l {
		Spoil(l[i].Key.Items)
		Spoil(l[i].Val.Items)
		l[i] = api.Pair{Key: Str(spoilt), Val: Str(spoilt)}
	}
}

// Apart tells whether no two of some lists, those within them and the spare room of all counted, share memory.
func Apart(lists ...[]api.Value) bool {
	seen := map[*api.Value]int{}
	for _, l := range lists {
		if !apart(l, seen) {
			return false
		}
	}
	return true
}

func apart(l []api.Value, seen map[*api.Value]int) bool {
	l = l[:cap(l)]
	for i := range l {
		seen[&l[i]]++
		if seen[&l[i]] > 1 || !apart(l[i].Items, seen) {
			return false
		}
	}
	return true
}
