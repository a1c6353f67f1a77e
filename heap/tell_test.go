package heap_test

import (
	"testing"

	"spinney/api"
	"spinney/hash"
	"spinney/heap"
	"spinney/sample"
)

// tooMuch are collections of each kind whose members are right, and what they say is not: of too many parts, and, where that can come, too deep.
func tooMuch(b bench) []int {
	b.t.Helper()
	var out []int
	half := list(sample.Numbers(500)...)
	for kind := heap.HMap; kind <= heap.HBimap; kind++ {
		n := b.of(kind, 0)
		for i := range int64(3) {
			v := list(num(i), half)
			if kind == heap.HBimap {
				v = list(num(i), list(half.Items[i:]...))
			}
			n = b.makes(heap.OpAdd, v, n)
		}
		out = append(out, n)
	}
	for _, kind := range []int{heap.HSet, heap.HVec, heap.HSorts, heap.HDeque, heap.HQueue} {
		out = append(out, b.of(kind, 0, sample.Nested(16, num(1))))
	}
	return append(out, b.of(heap.HMulti, 0, list(num(1), sample.Nested(15, num(1)))))
}

// What a collection says that is not right: ErrLong, by Tell, OpTell, OpHash, OpSame in either place.
func TestTooMuchToSay(t *testing.T) {
	b := begun(t)
	fine := b.of(heap.HVec, 0, num(1))
	for _, n := range tooMuch(b) {
		if v, e := b.h.Tell(n); !sample.Same(v, none()) || e != api.ErrLong {
			t.Errorf("Tell(%d): %v, %v", n, v, e)
		}
		for _, r := range []api.Record{record(heap.OpTell, n), record(heap.OpHash, n), record(heap.OpSame, n, fine), record(heap.OpSame, fine, n), record(heap.OpSame, n, n)} {
			if a := b.h.Do(r); !sameAnswer(a, api.Answer{Code: api.ErrLong, Handle: -1}) {
				t.Errorf("%v: %v", r, a)
			}
		}
		if a := b.do(heap.OpSize, none(), n); a.Code != api.OK || a.Val.Num > 3 {
			t.Errorf("OpSize %d: %v", n, a)
		}
	}
	open := b.makes(heap.OpBegin, none(), b.of(heap.HVec, 0, sample.Nested(16, num(1))))
	b.fails(api.ErrLong, heap.OpTell, none(), open)
	b.pops(sample.Nested(16, num(1)), open)
	b.says(open, list())
}

// As many members as a right value has room for, and one more.
func TestMostToSay(t *testing.T) {
	for kind := heap.HMap; kind <= heap.HBimap; kind++ {
		b := begun(t)
		n := b.of(kind, 0)
		room := api.MaxParts - 1
		v := func(i int) api.Value { return num(int64(i)) }
		switch kind {
		case heap.HMap, heap.HSorted, heap.HBimap:
			room, v = room/2, func(i int) api.Value { return list(num(int64(i)), num(int64(i))) }
		case heap.HMulti:
			room, v = room/3, func(i int) api.Value { return list(num(int64(i)), num(int64(i))) }
		}
		for i := range room {
			n = b.makes(heap.OpAdd, v(i), n)
		}
		full, e := b.h.Tell(n)
		if e != api.OK || full.Kind != empties()[kind].Kind {
			t.Fatalf("kind %d, %d members: %v", kind, room, e)
		}
		want, _ := hash.Full(full)
		b.tells(num(int64(want)), heap.OpHash, none(), n)
		more := b.makes(heap.OpAdd, v(room), n)
		if v, e := b.h.Tell(more); !sample.Same(v, none()) || e != api.ErrLong {
			t.Errorf("kind %d, %d members: %v", kind, room+1, e)
		}
		if kind == heap.HVec {
			open := b.makes(heap.OpBegin, none(), n)
			b.says(open, full)
			b.tells(none(), heap.OpPush, num(1), open)
			if a := b.do(heap.OpTell, none(), open); a.Code != api.ErrLong {
				t.Errorf("OpTell of a transient: %v", a)
			}
		}
	}
}

// OpSame: whether two say the same value, of unlike kinds, kinds of hash and orders too; equal ones have one hash (P5).
func TestSameAndHash(t *testing.T) {
	b := begun(t)
	v, w := str("v"), str("w")
	groups := [][]int{
		{b.of(heap.HMap, 0, list(v, w), list(w, v)), b.of(heap.HMap, 32, list(w, v), list(v, w)), b.of(heap.HSorted, 0, list(v, w), list(w, v)), b.of(heap.HSorted, 1, list(w, v), list(v, w)), b.of(heap.HBimap, 7, list(v, w), list(w, v))},
		{b.of(heap.HSet, 0, v, w), b.of(heap.HSet, 32, w, v, w), b.of(heap.HSorts, 0, w, v), b.of(heap.HSorts, 1, v, w)},
		{b.of(heap.HVec, 0, v, w), b.of(heap.HDeque, 0, v, w), b.of(heap.HQueue, 0, w, v)},
		{b.of(heap.HVec, 0, w, v), b.of(heap.HDeque, 0, w, v), b.of(heap.HQueue, 1, v, w)},
		{b.of(heap.HMulti, 0, list(v, w), list(v, v)), b.of(heap.HMulti, 32, list(v, v), list(v, w)), b.of(heap.HMap, 0, list(v, set(v, w))), b.of(heap.HSorted, 3, list(v, set(v, w)))},
		{b.of(heap.HMap, 0), b.of(heap.HMap, 5), b.of(heap.HSorted, 0), b.of(heap.HMulti, 0), b.of(heap.HBimap, 1)},
		{b.of(heap.HSet, 0), b.of(heap.HSorts, 4)},
		{b.of(heap.HVec, 0), b.of(heap.HDeque, 0), b.of(heap.HQueue, 2)},
		{b.of(heap.HMap, 0, list(v, v), list(w, v))},
	}
	for i, group := range groups {
		said, _ := b.h.Tell(group[0])
		full, _ := hash.Full(said)
		for _, h := range group {
			b.tells(num(int64(full)), heap.OpHash, none(), h)
			for k, others := range groups {
				for _, g := range others {
					want := sample.Bool(0)
					if i == k {
						want = sample.Bool(1)
					}
					b.tells(want, heap.OpSame, none(), h, g)
				}
			}
		}
	}
}
