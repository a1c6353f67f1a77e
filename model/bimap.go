package model

import (
	"slices"

	"spinney/api"
	"spinney/bimap"
	"spinney/sample"
)

// PutBoth is a new list of pairs, in which neither a key nor a value stands twice, with a pair, and without those that have its key or its value.
func PutBoth(l []api.Pair, k, v api.Value) []api.Pair {
	return append(RemoveValue(RemoveKey(l, k), v), api.Pair{Key: k, Val: v})
}

// PutAllBoth is a new list of pairs with others, too, that came one by one.
func PutAllBoth(l, others []api.Pair) []api.Pair {
	for _, p := range others {
		l = PutBoth(l, p.Key, p.Val)
	}
	return l
}

// RemoveValue is a new list of pairs without those of a value.
func RemoveValue(l []api.Pair, v api.Value) []api.Pair { return Turned(RemoveKey(Turned(l), v)) }

// WrongOfBimap is the call by which a bimap tells otherwise than pairs of unlike keys and unlike values, and a kind of hash, ask for; "" if there is none.
func WrongOfBimap(m *bimap.Map, kind int, plain []api.Pair) string {
	if wrong := wrongOneWay(m, kind, plain); wrong != "" {
		return wrong
	}
	turned := m.Inverse()
	if turned == nil || wrongOneWay(turned, kind, Turned(plain)) != "" || wrongOneWay(turned.Inverse(), kind, plain) != "" {
		return "Inverse"
	}
	return ""
}

// wrongOneWay is the call that tells otherwise, if it is not Inverse.
func wrongOneWay(m *bimap.Map, kind int, plain []api.Pair) string {
	turned := Turned(plain)
	switch {
	case m.Len() != len(plain):
		return "Len"
	case !sample.SamePairs(m.Pairs(), InTrieOrder(kind, plain)):
		return "Pairs"
	case !slices.EqualFunc(plain, Keys(plain), got(m.Get)):
		return "Get"
	case !slices.EqualFunc(turned, Keys(turned), got(m.By)):
		return "By"
	}
	return ""
}
