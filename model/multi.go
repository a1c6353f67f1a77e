package model

import (
	"slices"

	"spinney/api"
	"spinney/hset"
	"spinney/multi"
	"spinney/sample"
	"spinney/value"
)

// Add is a new list of pairs, each once, with a pair.
func Add(l []api.Pair, k, v api.Value) []api.Pair {
	return append(Remove(l, k, v), api.Pair{Key: k, Val: v})
}

// AddAll is a new list of pairs, each once, with others, too.
func AddAll(l, others []api.Pair) []api.Pair {
	for _, p := range others {
		l = Add(l, p.Key, p.Val)
	}
	return l
}

// Remove is a new list of pairs without a pair.
func Remove(l []api.Pair, k, v api.Value) []api.Pair {
	return slices.DeleteFunc(slices.Clone(l), func(p api.Pair) bool { return sample.Same(p.Key, k) && sample.Same(p.Val, v) })
}

// RemoveKey is a new list of pairs without those of a key.
func RemoveKey(l []api.Pair, k api.Value) []api.Pair {
	return slices.DeleteFunc(slices.Clone(l), func(p api.Pair) bool { return sample.Same(p.Key, k) })
}

// Turned are pairs turned about.
func Turned(l []api.Pair) []api.Pair {
	var out []api.Pair
	for _, p := range l {
		out = append(out, api.Pair{Key: p.Val, Val: p.Key})
	}
	return out
}

// InPairOrder are pairs in trie order of their keys, those of one key in trie order of their values.
func InPairOrder(kind int, l []api.Pair) []api.Pair {
	return InTrieOrder(kind, Turned(InTrieOrder(kind, Turned(l))))
}

// Several is a key, and the values that it has.
type Several struct {
	Key    api.Value
	Values []api.Value
}

// ByKeys are the keys of pairs of which those of one key stand together, with their values.
func ByKeys(l []api.Pair) []Several {
	var out []Several
	for i, p := range l {
		if i == 0 || !sample.Same(l[i-1].Key, p.Key) {
			out = append(out, Several{Key: p.Key})
		}
		last := &out[len(out)-1]
		last.Values = append(last.Values, p.Val)
	}
	return out
}

// WrongOfMulti is the call by which a multimap tells otherwise than unlike pairs, and a kind of hash, ask for; "" if there is none.
func WrongOfMulti(m *multi.Map, kind int, plain []api.Pair) string {
	want := InPairOrder(kind, plain)
	several := ByKeys(want)
	var keys []api.Value
	for _, s := range several {
		keys = append(keys, s.Key)
	}
	switch {
	case m.Kind() != kind:
		return "Kind"
	case m.Len() != len(want):
		return "Len"
	case !sample.SamePairs(m.Pairs(), want):
		return "Pairs"
	case !sample.SameAll(m.Keys(), keys):
		return "Keys"
	case slices.ContainsFunc(several, func(s Several) bool { return !setIs(m.Get(s.Key))(kind, s.Values) }):
		return "Get"
	case slices.ContainsFunc(want, func(p api.Pair) bool {
		there, e := m.Has(p.Key, p.Val)
		return !there || e != api.OK
	}):
		return "Has"
	case !sameValue(valueOf(several))(m.Value()):
		return "Value"
	}
	return ""
}

// setIs tells whether a set came without an error, and has a kind and members.
func setIs(s *hset.Set, e api.Errno) func(kind int, members []api.Value) bool {
	return func(kind int, members []api.Value) bool {
		return s != nil && e == api.OK && WrongOfSet(s, kind, members) == ""
	}
}

// valueOf is the VMap of keys, each with the VSet of its values.
func valueOf(several []Several) (api.Value, api.Errno) {
	var pairs []api.Pair
	for _, s := range several {
		set, e := value.Set(s.Values)
		if e != api.OK {
			return api.Value{}, e
		}
		pairs = append(pairs, api.Pair{Key: s.Key, Val: set})
	}
	return value.Map(pairs)
}
