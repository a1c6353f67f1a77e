package model

import (
	"spinney/api"
	"spinney/rrb"
	"spinney/sample"
	"spinney/value"
)

// WrongOfVec is the call by which a vector tells otherwise than a plain list of its items, or its height is none that it may have; "" if there is none.
func WrongOfVec(v *rrb.Vec, plain []api.Value) string {
	switch {
	case v.Len() != len(plain):
		return "Len"
	case !sample.SameAll(v.Items(), plain):
		return "Items"
	case !nthAre(v, plain):
		return "Nth"
	case !fromAre(v, plain):
		return "From"
	case !HeightFits(len(plain), v.Height()):
		return "Height"
	case !sameValue(value.List(plain))(v.Value()):
		return "Value"
	}
	return ""
}

// HeightFits tells whether a vector of n items may have so many levels: at most log2(n) / 4 and 3, held against n itself lest anything be rounded; and enough of them for nodes of 32 places.
func HeightFits(n, levels int) bool {
	if n == 0 || levels <= 0 || levels > 12 {
		return n == 0 && levels == 0
	}
	least := 1
	for range levels - 3 {
		least *= 16
	}
	most := 1
	for range levels {
		most *= 32
	}
	return least <= n && n <= most
}

// nthAre tells whether a vector has a plain list's items in their places, and nothing beside them.
func nthAre(v *rrb.Vec, plain []api.Value) bool {
	for i, want := range plain {
		if x, e := v.Nth(i); e != api.OK || !sample.Same(x, want) {
			return false
		}
	}
	for _, i := range []int{-1, len(plain)} {
		if x, e := v.Nth(i); e != api.ErrRange || !sample.Same(x, api.Value{}) {
			return false
		}
	}
	return true
}

// fromAre tells whether the iterator from the first place on goes over a plain list's items and their places.
func fromAre(v *rrb.Vec, plain []api.Value) bool {
	n := 0
	for i, x := range v.From(0) {
		if i != n || n == len(plain) || !sample.Same(x, plain[n]) {
			return false
		}
		n++
	}
	return n == len(plain)
}
