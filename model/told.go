package model

import (
	"iter"
	"slices"

	"spinney/api"
	"spinney/champ"
	"spinney/hset"
	"spinney/sample"
	"spinney/value"
)

// WrongOfMap is the call by which a hash map tells otherwise than pairs of unlike keys, and a kind of hash, ask for; "" if there is none.
func WrongOfMap(m *champ.Map, kind int, plain []api.Pair) string {
	want := InTrieOrder(kind, plain)
	switch {
	case m.Kind() != kind:
		return "Kind"
	case m.Len() != len(want):
		return "Len"
	case !sample.SamePairs(m.Pairs(), want):
		return "Pairs"
	case !sample.SamePairs(gone(m.All()), want):
		return "All"
	case !slices.Equal(m.Shape(), sample.Shape(kind, Keys(want))):
		return "Shape"
	case !slices.EqualFunc(want, Keys(want), got(m.Get)):
		return "Get"
	case !sameValue(value.Map(want))(m.Value()):
		return "Value"
	}
	return ""
}

// WrongOfSet is likewise what a hash set tells otherwise than unlike members ask for.
func WrongOfSet(s *hset.Set, kind int, plain []api.Value) string {
	want := sample.InTrieOrder(kind, plain)
	switch {
	case s.Kind() != kind:
		return "Kind"
	case s.Len() != len(want):
		return "Len"
	case !sample.SameAll(s.Items(), want):
		return "Items"
	case !sample.SameAll(slices.Collect(s.All()), want):
		return "All"
	case !slices.Equal(s.Shape(), sample.Shape(kind, want)):
		return "Shape"
	case slices.ContainsFunc(want, lacking(s.Has)):
		return "Has"
	case !sameValue(value.Set(want))(s.Value()):
		return "Value"
	}
	return ""
}

// gone are the pairs that come through a map's iterator.
func gone(all iter.Seq2[api.Value, api.Value]) []api.Pair {
	var out []api.Pair
	for k, v := range all {
		out = append(out, api.Pair{Key: k, Val: v})
	}
	return out
}

// got tells whether a map, by its call Get, has a pair's value under a key.
func got(get func(api.Value) (api.Value, bool, api.Errno)) func(p api.Pair, k api.Value) bool {
	return func(p api.Pair, k api.Value) bool {
		v, there, e := get(k)
		return there && e == api.OK && sample.Same(v, p.Val)
	}
}

// lacking tells whether a set, by its call Has, is without a member.
func lacking(has func(api.Value) (bool, api.Errno)) func(api.Value) bool {
	return func(v api.Value) bool {
		there, e := has(v)
		return !there || e != api.OK
	}
}

// sameValue tells whether a value, and the error beside it, are those that were to be told.
func sameValue(want api.Value, wantError api.Errno) func(api.Value, api.Errno) bool {
	return func(v api.Value, e api.Errno) bool { return sample.Same(v, want) && e == wantError }
}
