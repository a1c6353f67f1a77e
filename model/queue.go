package model

import (
	"spinney/api"
	"spinney/pairing"
	"spinney/sample"
)

// WrongOfQueue is the call by which a queue tells otherwise than a plain list of its items, and an order, ask for; "" if there is none.
func WrongOfQueue(q *pairing.Queue, by int, plain []api.Value) string {
	want := InLine(by, plain)
	switch {
	case q.Order() != by:
		return "Order"
	case q.Len() != len(want):
		return "Len"
	case !sample.SameAll(q.Sorted(), want):
		return "Sorted"
	case !sameEnd(q.Min())(want, 0):
		return "Min"
	case !popsAre(q, want):
		return "Pop"
	}
	return ""
}

// popsAre tells whether Pop again and again tells a plain list's items, one by one, and nothing beside them.
func popsAre(q *pairing.Queue, want []api.Value) bool {
	by := q.Order()
	for i, x := range want {
		rest, first, e := q.Pop()
		if e != api.OK || rest == nil || rest.Order() != by || rest.Len() != len(want)-i-1 || !sample.Same(first, x) {
			return false
		}
		q = rest
	}
	rest, first, e := q.Pop()
	return rest == nil && e == api.ErrEmpty && sample.Same(first, api.Value{})
}
