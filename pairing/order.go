package pairing

import (
	"spinney/api"
	"spinney/order"
)

// checkOrder is ErrKind, if there is no such order.
func checkOrder(by int) api.Errno {
	_, e := order.Compare(by, api.Value{}, api.Value{})
	return e
}

// byOrder tells whether a right item stands ahead of another one by an order.
func byOrder(by int) func(x, y api.Value) bool {
	return func(x, y api.Value) bool {
		c, _ := order.Compare(by, x, y)
		return c < 0
	}
}

// sorted are right items by an order, in memory of their own.
func sorted(by int, items []api.Value) []api.Value {
	// Package order measures each item once, where going from one Pop to the next would do so whenever two are compared.
	out, _ := order.Sort(by, items)
	return out
}
