package heap_test

import (
	"math"
	"testing"

	"spinney/api"
	"spinney/heap"
	"spinney/model"
	"spinney/sample"
)

// crowded is a furnished heap with so many handles in all.
func crowded(t *testing.T, handles int) (bench, [lastKind + 1]int) {
	t.Helper()
	b, of := furnished(t)
	for b.h.Len() < handles {
		b.makes(heap.OpNew, none(), heap.HVec, 0)
	}
	return b, of
}

// isFull looks whether a record is refused for want of a handle. What the handles say is not looked at, since that takes long.
func (b bench) isFull(r api.Record) {
	b.t.Helper()
	n := b.h.Len()
	if a := b.h.Do(r); !sameAnswer(a, api.Answer{Code: api.ErrLong, Handle: -1}) || b.h.Len() != n {
		b.t.Errorf("%v of a full heap: %v", r, a)
	}
}

// A step that would make the handle MaxHandles: ErrLong, ahead of all that is wrong besides, behind ErrOp. All other steps are done.
func TestFull(t *testing.T) {
	b, of := crowded(t, heap.MaxHandles)
	was := snapshot(b.h)
	for op := 1; op <= lastOp; op++ {
		r, kind := rightOf(op, of)
		if op == heap.OpLess || op == heap.OpGet {
			r.Val = num(1)
		}
		bad := r
		bad.Text = "a"
		b.refuses(api.ErrOp, bad)
		b.refuses(api.ErrOp, api.Record{Op: op, Args: append([]int{-1}, r.Args...)})
		if !model.Makes(op, kind) {
			if a := b.h.Do(r); a.Code != api.OK || a.Handle != -1 {
				t.Errorf("%v: %v", r, a)
			}
			if op == heap.OpPush {
				b.pops(num(1), of[heap.HTrans])
			}
			continue
		}
		b.isFull(r)
		wrong := r
		wrong.Val = sample.Bool(2)
		b.isFull(wrong)
		for _, n := range []int{-1, of[heap.HMap], of[heap.HSeq], heap.MaxHandles, math.MaxInt} {
			wrong.Args = make([]int, len(r.Args))
			for i := range wrong.Args {
				wrong.Args[i] = n
			}
			b.isFull(wrong)
		}
	}
	b.refuses(api.ErrOp, record(0))
	if b.h.Len() != heap.MaxHandles || was.unlike(snapshot(b.h)) >= 0 {
		t.Errorf("a full heap has changed")
	}
	b.fails(api.ErrHandle, heap.OpTell, none(), heap.MaxHandles)
	b.fails(api.ErrHandle, heap.OpTell, none(), -1)
}

// OpSeal of a full heap seals nothing; OpPop and OpPush of a HTrans are done, since they make no handle.
func TestTransientsOfAFullHeap(t *testing.T) {
	b, of := crowded(t, heap.MaxHandles)
	open := of[heap.HTrans]
	b.tells(none(), heap.OpPush, num(2), open)
	b.isFull(record(heap.OpSeal, open))
	b.says(open, list(nums(1, 2)...))
	b.pops(num(2), open)
	b.pops(num(1), open)
	b.fails(api.ErrEmpty, heap.OpPop, none(), open)
	b.fails(api.ErrValue, heap.OpPush, sample.Bool(2), open)
	b.isFull(record(heap.OpPop, of[heap.HVec]))
	b.isFull(record(heap.OpPop, of[heap.HMap]))
	b.isFull(record(heap.OpPop, of[heap.HSeq]))
	b.isFull(record(heap.OpPop, heap.MaxHandles))
}

// One handle less than MaxHandles: each op that makes one is done, and then none is left.
func TestLastHandle(t *testing.T) {
	for op := 1; op <= lastOp; op++ {
		b, of := crowded(t, heap.MaxHandles-1)
		r, kind := rightOf(op, of)
		if !model.Makes(op, kind) {
			continue
		}
		if handlesOf(op) > 0 {
			wrong := r
			wrong.Args = append([]int{-1}, r.Args[1:]...)
			b.refuses(api.ErrHandle, wrong)
		}
		if op == heap.OpLess {
			r.Val = num(1)
		}
		if a := b.h.Do(r); a.Code != api.OK || a.Handle != heap.MaxHandles-1 || b.h.Len() != heap.MaxHandles {
			t.Errorf("%v: %v, %d handles", r, a, b.h.Len())
		}
		b.isFull(r)
	}
}

// A nil heap has no handles, and keeps nothing: a handle that it tells is 0.
func TestNilHeap(t *testing.T) {
	var h *heap.Heap
	b := bench{t, h}
	for range 3 {
		for kind := heap.HMap; kind <= heap.HBimap; kind++ {
			if a := b.do(heap.OpNew, none(), kind, 0); !sameAnswer(a, api.Answer{}) {
				t.Errorf("OpNew of a nil heap: %v", a)
			}
		}
		if a := b.do(heap.OpIter, num(1), api.FnInc); !sameAnswer(a, api.Answer{}) {
			t.Errorf("OpIter of a nil heap: %v", a)
		}
		if h.Len() != 0 {
			t.Errorf("%d handles", h.Len())
		}
	}
	b.fails(api.ErrArg, heap.OpNew, none(), 0, 0)
	b.fails(api.ErrKind, heap.OpNew, none(), heap.HVec, 1)
	b.fails(api.ErrKind, heap.OpIter, num(1), 8)
	b.fails(api.ErrValue, heap.OpIter, sample.Bool(2), 0)
	for op := 1; op <= lastOp; op++ {
		b.refuses(api.ErrOp, record(op))
		if handlesOf(op) > 0 {
			b.refuses(api.ErrHandle, right(op, make([]int, handlesOf(op))...))
		}
	}
	b.refuses(api.ErrOp, record(0))
	for _, n := range []int{-1, 0, 1} {
		if v, e := h.Tell(n); !sample.Same(v, none()) || e != api.ErrHandle {
			t.Errorf("Tell(%d): %v, %v", n, v, e)
		}
		if kind, e := h.Kind(n); kind != 0 || e != api.ErrHandle {
			t.Errorf("Kind(%d): %d, %v", n, kind, e)
		}
	}
}

// A zero heap has no handles, and keeps them, as a new one does; two heaps have nothing in common.
func TestZeroHeap(t *testing.T) {
	var zero heap.Heap
	b, other := bench{t, &zero}, begun(t)
	b.says(b.of(heap.HVec, 0, num(1)), list(num(1)))
	if other.h.Len() != 0 || zero.Len() != 2 {
		t.Errorf("%d, %d handles", other.h.Len(), zero.Len())
	}
}
