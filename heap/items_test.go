package heap_test

import (
	"math"
	"testing"

	"spinney/api"
	"spinney/heap"
	"spinney/sample"
)

// pops looks whether a step tells an item, and the next handle where it makes one; that handle, or -1.
func (b bench) pops(want api.Value, n int) int {
	b.t.Helper()
	handle := b.h.Len()
	if kind, _ := b.h.Kind(n); kind == heap.HTrans {
		handle = -1
	}
	if a := b.do(heap.OpPop, none(), n); !sameAnswer(a, api.Answer{Handle: handle, Val: want}) {
		b.t.Errorf("OpPop %d: %v, want handle %d and %v", n, a, handle, want)
	}
	return handle
}

// holding is a vector, a deque or a transient of items.
func (b bench) holding(kind int, items ...api.Value) int {
	b.t.Helper()
	if kind == heap.HTrans {
		return b.makes(heap.OpBegin, none(), b.of(heap.HVec, 0, items...))
	}
	return b.of(kind, 0, items...)
}

// OpNth: the first place, the last one, places that are none.
func TestNth(t *testing.T) {
	b := begun(t)
	for _, kind := range []int{heap.HVec, heap.HDeque, heap.HTrans} {
		for _, size := range []int{0, 1, 2, 3, 100} {
			n := b.holding(kind, sample.Numbers(size)...)
			for i := range size {
				b.tells(num(int64(i)), heap.OpNth, none(), n, i)
			}
			for _, i := range []int{-1, size, size + 1, math.MinInt, math.MaxInt, 1 << 32} {
				if a := b.do(heap.OpNth, none(), n, i); !sameAnswer(a, api.Answer{Code: api.ErrRange, Handle: -1}) {
					t.Errorf("OpNth %d of kind %d with %d: %v", i, kind, size, a)
				}
			}
		}
	}
}

// OpPop: of many, of one, of none; the last item of HVec and HTrans, the first one of HDeque and HQueue.
func TestPop(t *testing.T) {
	b := begun(t)
	three := []api.Value{num(3), none(), num(1)}
	vec := b.of(heap.HVec, 0, three...)
	vec2 := b.pops(num(1), vec)
	b.says(vec2, list(three[:2]...))
	vec1 := b.pops(none(), vec2)
	b.says(vec1, list(three[:1]...))
	vec0 := b.pops(num(3), vec1)
	b.says(vec0, list())
	b.fails(api.ErrEmpty, heap.OpPop, none(), vec0)

	deque := b.of(heap.HDeque, 0, three...)
	deque2 := b.pops(num(3), deque)
	b.says(deque2, list(three[1:]...))
	deque0 := b.pops(num(1), b.pops(none(), deque2))
	b.says(deque0, list())
	b.fails(api.ErrEmpty, heap.OpPop, none(), deque0)

	for by, order := range [][]api.Value{{none(), num(1), num(3)}, {num(3), num(1), none()}} {
		queue := b.of(heap.HQueue, by, three...)
		queue2 := b.pops(order[0], queue)
		b.says(queue2, list(order[1:]...))
		queue0 := b.pops(order[2], b.pops(order[1], queue2))
		b.says(queue0, list())
		b.fails(api.ErrEmpty, heap.OpPop, none(), queue0)
		b.says(queue, list(order...))
	}
	b.says(vec, list(three...))
	b.says(deque, list(three...))
}

// OpBegin, OpPush, OpPop, OpSeal in turn; each of them behind OpSeal, and all else that a HTrans is asked.
func TestTransients(t *testing.T) {
	b := begun(t)
	vec := b.of(heap.HVec, 0, nums(1, 2)...)
	open, other := b.makes(heap.OpBegin, none(), vec), b.makes(heap.OpBegin, none(), vec)
	b.tells(none(), heap.OpPush, num(3), open)
	b.tells(none(), heap.OpPush, none(), open)
	b.says(open, list(num(1), num(2), num(3), none()))
	b.tells(num(4), heap.OpSize, none(), open)
	b.tells(num(3), heap.OpNth, none(), open, 2)
	b.pops(none(), open)
	b.pops(num(3), open)
	b.pops(num(2), open)
	b.says(open, list(num(1)))
	b.tells(none(), heap.OpPush, num(4), open)
	for _, w := range sample.Wrongs() {
		b.fails(api.ErrValue, heap.OpPush, w, open)
	}
	b.says(other, list(nums(1, 2)...))
	sealed := b.makes(heap.OpSeal, none(), open)
	b.says(sealed, list(nums(1, 4)...))
	b.says(vec, list(nums(1, 2)...))
	if kind, _ := b.h.Kind(sealed); kind != heap.HVec {
		t.Errorf("kind %d", kind)
	}

	for _, v := range []api.Value{num(1), sample.Bool(2)} {
		b.fails(api.ErrSeal, heap.OpPush, v, open)
		b.fails(api.ErrSeal, heap.OpSeal, v, open)
		b.fails(api.ErrSeal, heap.OpPop, v, open)
		b.fails(api.ErrSeal, heap.OpNth, v, open, 0)
		b.fails(api.ErrSeal, heap.OpNth, v, open, -1)
		b.fails(api.ErrSeal, heap.OpSize, v, open)
		b.fails(api.ErrSeal, heap.OpTell, v, open)
		b.fails(api.ErrWrong, heap.OpBegin, v, open)
	}
	if v, e := b.h.Tell(open); !sample.Same(v, none()) || e != api.ErrSeal {
		t.Errorf("Tell of a sealed one: %v, %v", v, e)
	}
	if kind, e := b.h.Kind(open); kind != heap.HTrans || e != api.OK {
		t.Errorf("Kind of a sealed one: %d, %v", kind, e)
	}

	again := b.makes(heap.OpBegin, none(), sealed)
	b.tells(none(), heap.OpPush, num(5), again)
	b.says(sealed, list(nums(1, 4)...))
	b.pops(num(2), other)
	b.pops(num(1), other)
	b.fails(api.ErrEmpty, heap.OpPop, none(), other)
	b.says(other, list())
	b.says(b.makes(heap.OpSeal, none(), other), list())
}

// OpJoin by hand: of two that are not the same, and of one with itself.
func TestJoin(t *testing.T) {
	a, c, v, w := str("a"), str("c"), str("v"), str("w")
	for _, x := range []struct {
		kind         int
		first, other []api.Value
		want         api.Value
	}{
		{heap.HMap, []api.Value{list(a, v), list(c, v)}, []api.Value{list(c, w)}, dict(a, v, c, w)},
		{heap.HSet, []api.Value{a, c}, []api.Value{c, v}, set(a, c, v)},
		{heap.HVec, []api.Value{a, c}, []api.Value{c, v}, list(a, c, c, v)},
		{heap.HSorted, []api.Value{list(a, v), list(c, v)}, []api.Value{list(c, w)}, dict(a, v, c, w)},
		{heap.HSorts, []api.Value{a, c}, []api.Value{c, v}, set(a, c, v)},
		{heap.HDeque, []api.Value{a, c}, []api.Value{c, v}, list(a, c, c, v)},
		{heap.HQueue, []api.Value{v, c}, []api.Value{c, a}, list(a, c, c, v)},
		{heap.HMulti, []api.Value{list(a, v), list(c, v)}, []api.Value{list(c, w), list(c, v)}, dict(a, set(v), c, set(v, w))},
	} {
		b := begun(t)
		h, g := b.of(x.kind, 0, x.first...), b.of(x.kind, 0, x.other...)
		was := snapshot(b.h)
		b.says(b.makes(heap.OpJoin, none(), h, g), x.want)
		self := b.makes(heap.OpJoin, none(), h, h)
		empty := b.of(x.kind, 0)
		for _, n := range []int{b.makes(heap.OpJoin, none(), h, empty), b.makes(heap.OpJoin, none(), empty, h)} {
			b.tells(sample.Bool(1), heap.OpSame, none(), n, h)
		}
		switch x.kind {
		case heap.HVec, heap.HDeque:
			b.says(self, list(append(x.first, x.first...)...))
		case heap.HQueue:
			b.says(self, list(c, c, v, v))
		default:
			b.tells(sample.Bool(1), heap.OpSame, none(), self, h)
		}
		if at := was.unlike(snapshot(b.h)[:len(was)]); at >= 0 {
			t.Errorf("OpJoin of kind %d changed handle %d", x.kind, at)
		}
	}
}

// OpJoin of unlike kinds of hash, or orders: the first one's (R7).
func TestJoinOfUnlikeOrders(t *testing.T) {
	b := begun(t)
	for _, x := range []struct {
		kind, k, other int
		want           []api.Value
	}{
		// Kind 32 has all keys in natural order, kind 39 has 2 ahead of 1.
		{heap.HSet, 32, 39, nums(1, 2)}, {heap.HSet, 39, 32, nums(2, 1)},
		{heap.HMap, 32, 39, []api.Value{member(heap.HMap, 1), member(heap.HMap, 2)}}, {heap.HMap, 39, 32, []api.Value{member(heap.HMap, 2), member(heap.HMap, 1)}},
		{heap.HMulti, 32, 39, []api.Value{member(heap.HMulti, 1), member(heap.HMulti, 2)}}, {heap.HMulti, 39, 32, []api.Value{member(heap.HMulti, 2), member(heap.HMulti, 1)}},
		{heap.HSorted, 0, 1, []api.Value{member(heap.HSorted, 1), member(heap.HSorted, 2)}}, {heap.HSorted, 1, 0, []api.Value{member(heap.HSorted, 2), member(heap.HSorted, 1)}},
		{heap.HSorts, 0, 1, nums(1, 2)}, {heap.HSorts, 1, 0, nums(2, 1)},
		{heap.HQueue, 0, 1, nums(1, 2)}, {heap.HQueue, 1, 0, nums(2, 1)},
	} {
		h, g := b.of(x.kind, x.k, member(x.kind, 1)), b.of(x.kind, x.other, member(x.kind, 2))
		both := b.makes(heap.OpJoin, none(), h, g)
		b.tells(list(x.want...), heap.OpTake, none(), b.makes(heap.OpSeq, none(), both), 9, 0)
	}
}

// OpAdd, OpJoin, OpPush: what would have more than MaxLen members.
func TestTooManyMembers(t *testing.T) {
	for _, kind := range []int{heap.HVec, heap.HDeque, heap.HQueue} {
		b := begun(t)
		n := b.of(kind, 0, num(7))
		for size := 1; size < api.MaxLen; size *= 2 {
			n = b.makes(heap.OpJoin, none(), n, n)
		}
		b.tells(num(api.MaxLen), heap.OpSize, none(), n)
		b.fails(api.ErrLong, heap.OpAdd, num(7), n)
		b.fails(api.ErrValue, heap.OpAdd, sample.Bool(2), n)
		b.fails(api.ErrLong, heap.OpJoin, none(), n, 1)
		b.fails(api.ErrLong, heap.OpJoin, none(), 1, n)
		b.fails(api.ErrLong, heap.OpJoin, none(), n, n)
		less := b.pops(num(7), n)
		b.tells(num(api.MaxLen), heap.OpSize, none(), b.makes(heap.OpAdd, num(7), less))
		if kind != heap.HVec {
			continue
		}
		open := b.makes(heap.OpBegin, none(), less)
		b.tells(none(), heap.OpPush, num(7), open)
		b.fails(api.ErrLong, heap.OpPush, num(7), open)
		b.fails(api.ErrLong, heap.OpTell, none(), open)
		b.tells(num(api.MaxLen), heap.OpSize, none(), open)
	}
}
