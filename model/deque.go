package model

import (
	"slices"

	"spinney/api"
	"spinney/finger"
	"spinney/sample"
	"spinney/value"
)

// WrongOfDeque is the call by which a deque tells otherwise than a plain list of its items, or its height is none that it may have; "" if there is none.
func WrongOfDeque(d *finger.Deque, plain []api.Value) string {
	switch {
	case d.Len() != len(plain):
		return "Len"
	case !sample.SameAll(d.Items(), plain):
		return "Items"
	case !itemsAre(d, plain):
		return "At"
	case !sample.SameAll(slices.Collect(d.All()), plain):
		return "All"
	case !DequeFits(len(plain), d.Height()):
		return "Height"
	case !sameValue(value.List(plain))(d.Value()):
		return "Value"
	case !endIs(d.PopFront())(plain, 0):
		return "PopFront"
	case !endIs(d.PopBack())(plain, len(plain)-1):
		return "PopBack"
	}
	return ""
}

// DequeFits tells whether a deque of n items may have so many levels: at most log2(n) and 2, held against n itself lest anything be rounded; and enough of them for four parts at each end and nodes of three.
func DequeFits(n, levels int) bool {
	if n == 0 || levels <= 0 || levels > 30 {
		return n == 0 && levels == 0
	}
	least := 1
	for range levels - 2 {
		least *= 2
	}
	most, part := 0, 1
	for range levels {
		most += 8 * part
		part *= 3
	}
	return least <= n && n <= most
}

// Weight is what the items of a plain list weigh together, as chapter 18 weighs them.
func Weight(plain []api.Value) int64 {
	var w int64
	for _, x := range plain {
		if x.Kind == api.VInt && x.Num >= 0 && x.Num <= api.MaxLen {
			w += x.Num
		} else {
			w++
		}
	}
	return w
}

// Above is how many items of a plain list stand ahead of the first one up to which they weigh more than w, and whether there is one; all of them, if there is none.
func Above(plain []api.Value, w int64) (int, bool) {
	for i, x := range plain {
		own := Weight([]api.Value{x})
		if own > w {
			return i, true
		}
		w -= own
	}
	return len(plain), false
}

// itemsAre tells whether a deque has a plain list's items in their places, and nothing beside them.
func itemsAre(d *finger.Deque, plain []api.Value) bool {
	for i, want := range plain {
		if x, e := d.At(i); e != api.OK || !sample.Same(x, want) {
			return false
		}
	}
	for _, i := range []int{-1, len(plain)} {
		if x, e := d.At(i); e != api.ErrRange || !sample.Same(x, api.Value{}) {
			return false
		}
	}
	return true
}

// endIs tells whether what was taken from an end of a deque is the item in a place of a list, and left one less, or, beside ErrEmpty, nothing was taken from none.
func endIs(rest *finger.Deque, x api.Value, e api.Errno) func(plain []api.Value, i int) bool {
	return func(plain []api.Value, i int) bool {
		if len(plain) == 0 {
			return rest == nil && e == api.ErrEmpty && sample.Same(x, api.Value{})
		}
		return rest != nil && rest.Len() == len(plain)-1 && e == api.OK && sample.Same(x, plain[i])
	}
}
