package model

import (
	"slices"

	"spinney/api"
	"spinney/order"
	"spinney/sample"
	"spinney/sset"
	"spinney/value"
)

// InLine are values by an order.
func InLine(by int, l []api.Value) []api.Value {
	out := slices.Clone(l)
	slices.SortStableFunc(out, func(a, b api.Value) int {
		c, _ := order.Compare(by, a, b)
		return c
	})
	return out
}

// WrongOfSortedSet is the call by which a sorted set tells otherwise than unlike members, and an order, ask for, or its height is none that it may have; "" if there is none.
func WrongOfSortedSet(s *sset.Set, by int, plain []api.Value) string {
	want := InLine(by, plain)
	switch {
	case s.Order() != by:
		return "Order"
	case s.Len() != len(want):
		return "Len"
	case !sample.SameAll(s.Items(), want):
		return "Items"
	case !sample.SameAll(slices.Collect(s.All()), want):
		return "All"
	case slices.ContainsFunc(want, lacking(s.Has)):
		return "Has"
	case !FlatFits(len(want), s.Height()):
		return "Height"
	case !sameValue(value.Set(want))(s.Value()):
		return "Value"
	case !sameEnd(s.First())(want, 0):
		return "First"
	case !sameEnd(s.Last())(want, len(want)-1):
		return "Last"
	}
	return wrongPlace(s, want)
}

// sameEnd tells whether a member is the one in a place of a list, or, beside ErrEmpty, zero and in none.
func sameEnd(v api.Value, e api.Errno) func(l []api.Value, i int) bool {
	return func(l []api.Value, i int) bool {
		if len(l) == 0 {
			return e == api.ErrEmpty && sample.Same(v, api.Value{})
		}
		return e == api.OK && sample.Same(v, l[i])
	}
}

// nextTo tells whether a member is the one in a place of a list, or, beside a false, zero and in none.
func nextTo(v api.Value, there bool, e api.Errno) func(l []api.Value, i int) bool {
	return func(l []api.Value, i int) bool {
		if i < 0 || i >= len(l) {
			return e == api.OK && !there && sample.Same(v, api.Value{})
		}
		return e == api.OK && there && sample.Same(v, l[i])
	}
}

// wrongPlace is the call by which a sorted set tells otherwise where its members stand.
func wrongPlace(s *sset.Set, want []api.Value) string {
	for i, v := range want {
		if x, e := s.At(i); e != api.OK || !sample.Same(x, v) {
			return "At"
		}
		if n, e := s.Rank(v); e != api.OK || n != i {
			return "Rank"
		}
		if !nextTo(s.Next(v))(want, i+1) {
			return "Next"
		}
		if !nextTo(s.Ahead(v))(want, i-1) {
			return "Ahead"
		}
	}
	for _, i := range []int{-1, len(want)} {
		if x, e := s.At(i); e != api.ErrRange || !sample.Same(x, api.Value{}) {
			return "At"
		}
	}
	return ""
}
