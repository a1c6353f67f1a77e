package pairing_test

import (
	"slices"
	"testing"

	"spinney/api"
	"spinney/pairing"
	"spinney/sample"
)

// 19.2, R7: by hand, by the first one's order.
func TestMeldByHand(t *testing.T) {
	a, b := of(t, 5, ints(-2, 1, 0, 1)), of(t, 1, ints(1, 7, -7))
	checkSorted(t, must(t)(pairing.Meld(a, b)), ints(0, 1, 1, 1, -2, -7, 7))
	checkSorted(t, must(t)(pairing.Meld(b, a)), ints(7, 1, 1, 1, 0, -2, -7))
	if x, y := must(t)(pairing.Meld(a, b)), must(t)(pairing.Meld(b, a)); x.Order() != 5 || y.Order() != 1 {
		t.Errorf("orders %d, %d", x.Order(), y.Order())
	}
	check(t, a, 5, ints(-2, 1, 0, 1))
	check(t, b, 1, ints(1, 7, -7))
}

// 19.2, R7: of all orders, alike and unlike; both queues stay as they were, and what is made goes on by the first one's order.
func TestMeldOfAllOrders(t *testing.T) {
	s := sample.New(2)
	for x, line := range lines() {
		for y, other := range lines() {
			for range 4 {
				l, m := sample.Shuffled(s, line)[:s.Below(len(line)+1)], sample.Shuffled(s, other)[:s.Below(len(other)+1)]
				for _, a := range []*pairing.Queue{of(t, x, l), pushed(t, x, l)} {
					for _, b := range []*pairing.Queue{of(t, y, m), pushed(t, y, m)} {
						both := must(t)(pairing.Meld(a, b))
						check(t, both, x, slices.Concat(l, m))
						check(t, must(t)(both.Push(num(3))), x, slices.Concat(l, m, ints(3)))
						check(t, a, x, l)
						check(t, b, y, m)
					}
				}
			}
			check(t, must(t)(pairing.Meld(of(t, x, line), of(t, y, nil))), x, line)
			check(t, must(t)(pairing.Meld(of(t, x, nil), of(t, y, line))), x, line)
			check(t, must(t)(pairing.Meld(of(t, x, nil), of(t, y, nil))), x, nil)
		}
	}
}

// 19.2: a queue with itself has each item twice.
func TestMeldWithItself(t *testing.T) {
	for order, line := range lines() {
		q := pushed(t, order, line)
		twice := must(t)(pairing.Meld(q, q))
		check(t, twice, order, slices.Concat(line, line))
		check(t, must(t)(pairing.Meld(twice, q)), order, slices.Concat(line, line, line))
		check(t, must(t)(pairing.Meld(twice, twice)), order, slices.Concat(line, line, line, line))
		check(t, q, order, line)
	}
}

// 19.3, P9: Meld of three either way round has the same Sorted, of alike and of unlike orders; of alike orders, of two turned about, too.
func TestMeldOfThree(t *testing.T) {
	s := sample.New(3)
	for range 300 {
		var queues [3]*pairing.Queue
		var all []api.Value
		order := s.Below(api.MaxOrder + 1)
		mixed := s.Below(2) == 0
		for i := range queues {
			if mixed {
				order = s.Below(api.MaxOrder + 1)
			}
			l := s.Values(s.Below(12), 2)
			all = append(all, l...)
			queues[i] = of(t, order, l)
			if s.Below(2) == 0 {
				queues[i] = pushed(t, order, l)
			}
		}
		a, b, c := queues[0], queues[1], queues[2]
		left := must(t)(pairing.Meld(must(t)(pairing.Meld(a, b)), c))
		right := must(t)(pairing.Meld(a, must(t)(pairing.Meld(b, c))))
		if !sample.SameAll(left.Sorted(), right.Sorted()) {
			t.Fatalf("%s, and %s", short(left.Sorted()), short(right.Sorted()))
		}
		check(t, left, a.Order(), all)
		check(t, right, a.Order(), all)
		if ab, ba := must(t)(pairing.Meld(a, b)), must(t)(pairing.Meld(b, a)); !mixed && !sample.SameAll(ab.Sorted(), ba.Sorted()) {
			t.Fatalf("%s, and %s", short(ab.Sorted()), short(ba.Sorted()))
		}
	}
}

// 19.1, 19.2: MaxLen items, and one more, in Of and Push.
func TestMaxLen(t *testing.T) {
	l := sample.Numbers(api.MaxLen)
	for order := range api.MaxOrder + 1 {
		full := of(t, order, l)
		refused(t, api.ErrLong)(full.Push(num(-1)))
		refused(t, api.ErrLong)(full.Push(num(7)))
		refused(t, api.ErrLong)(pairing.Of(order, append(l[:api.MaxLen:api.MaxLen], num(7))))
		rest, x, e := full.Pop()
		if e != api.OK || rest.Len() != api.MaxLen-1 {
			t.Fatalf("order %d: Pop: %v, %d items", order, e, rest.Len())
		}
		again := must(t)(rest.Push(x))
		refused(t, api.ErrLong)(again.Push(x))
		if full.Len() != api.MaxLen || again.Len() != api.MaxLen {
			t.Errorf("order %d: %d, %d items", order, full.Len(), again.Len())
		}
	}
	check(t, of(t, 1, l), 1, l)
}

// 19.1: the same item as often as a queue may have items.
func TestMaxLenOfOne(t *testing.T) {
	many := slices.Repeat(ints(3), api.MaxLen)
	q := of(t, 0, many)
	check(t, q, 0, many)
	refused(t, api.ErrLong)(q.Push(num(3)))
	refused(t, api.ErrLong)(pairing.Of(0, append(many, num(3))))
}

// 19.2: MaxLen items of two queues together, and one more.
func TestMeldOfMaxLen(t *testing.T) {
	const half = api.MaxLen / 2
	l := sample.Numbers(api.MaxLen)
	for _, orders := range [][2]int{{0, 0}, {0, 1}, {5, 2}} {
		x, y := orders[0], orders[1]
		full, one := of(t, x, l), of(t, y, ints(7))
		first, rest, over := of(t, x, l[:half]), of(t, y, l[half:]), of(t, y, l[half-1:])
		for _, two := range [][2]*pairing.Queue{{full, one}, {one, full}, {first, over}, {over, first}, {full, full}} {
			refused(t, api.ErrLong)(pairing.Meld(two[0], two[1]))
		}
		both := must(t)(pairing.Meld(first, rest))
		if both.Len() != api.MaxLen || both.Order() != x || !sample.SameAll(both.Sorted(), full.Sorted()) {
			t.Errorf("orders %v: %d items", orders, both.Len())
		}
		twice := must(t)(pairing.Meld(first, first))
		if twice.Len() != api.MaxLen {
			t.Errorf("orders %v: %d items", orders, twice.Len())
		}
		for _, none := range []*pairing.Queue{nil, of(t, y, nil)} {
			if q := must(t)(pairing.Meld(full, none)); q.Len() != api.MaxLen {
				t.Errorf("orders %v: %d items", orders, q.Len())
			}
			if q := must(t)(pairing.Meld(none, full)); q.Len() != api.MaxLen {
				t.Errorf("orders %v: %d items", orders, q.Len())
			}
		}
	}
}

// P1: rising and falling items make heaps that are as wide, and as deep, as can be.
func TestWideAndDeep(t *testing.T) {
	l := sample.Numbers(api.MaxLen)
	for _, in := range [][]api.Value{l, reversed(l)} {
		q := pushed(t, 0, in)
		check(t, q, 0, l)
		check(t, must(t)(pairing.Meld(must(t)(pairing.New(1)), q)), 1, l)
	}
}
