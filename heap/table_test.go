package heap_test

import (
	"math"
	"testing"

	"spinney/api"
	"spinney/heap"
	"spinney/model"
	"spinney/sample"
)

// handlesOf is how many of an op's Args are handles.
func handlesOf(op int) int {
	switch op {
	case heap.OpNew, heap.OpIter:
		return 0
	case heap.OpJoin, heap.OpSame:
		return 2
	}
	return 1
}

// right is a record of an op that would be done, with these handles ahead of its numbers.
func right(op int, handles ...int) api.Record {
	numbers := map[int][]int{heap.OpNew: {heap.HVec, 0}, heap.OpNth: {0}, heap.OpIter: {0}, heap.OpMap: {0}, heap.OpKeep: {0}, heap.OpTake: {1, 9}}
	return api.Record{Op: op, Args: append(handles, numbers[op]...), Val: num(1)}
}

// rightOf is a record of an op that is done, of a kind that its row names.
func rightOf(op int, of [lastKind + 1]int) (api.Record, int) {
	for kind := heap.HMap; kind <= lastKind; kind++ {
		if !model.Names(op, kind) {
			continue
		}
		r := right(op, of[kind])
		if handlesOf(op) == 2 {
			r = right(op, of[kind], of[kind])
		}
		r.Val = member(kind, 1)
		return r, kind
	}
	return right(op), 0
}

// 27.1: each op is done, asked as the table says.
func TestAllOpsAreDone(t *testing.T) {
	for op := 1; op <= lastOp; op++ {
		b, of := furnished(t)
		r, kind := rightOf(op, of)
		if op == heap.OpGet || op == heap.OpLess {
			r.Val = num(1)
		}
		handle := -1
		if model.Makes(op, kind) {
			handle = b.h.Len()
		}
		if a := b.h.Do(r); a.Code != api.OK || a.Handle != handle {
			t.Errorf("%v: %v", r, a)
		}
	}
}

// 27.1: ops that are none, whatever they are asked with.
func TestOpsThatAreNone(t *testing.T) {
	for _, op := range append(sample.Beyond(lastOp), 0, 99, -99) {
		b, of := furnished(t)
		for _, args := range [][]int{nil, {}, {of[3]}, {of[3], of[3]}, {-1}, {1, 2, 3}, {1, 2, 3, 4}} {
			b.fails(api.ErrOp, op, num(1), args...)
			b.fails(api.ErrOp, op, sample.Bool(2), args...)
		}
	}
}

// 27.1: too few Args, too many, or a Text: ErrOp, ahead of all that is wrong besides.
func TestAskedOtherwise(t *testing.T) {
	for op := 1; op <= lastOp; op++ {
		b, of := furnished(t)
		r, _ := rightOf(op, of)
		for n := range 6 {
			if n == model.Args(op) {
				continue
			}
			for _, arg := range []int{0, -1, of[heap.HSeq], b.h.Len(), math.MaxInt} {
				args := make([]int, n)
				for i := range args {
					args[i] = arg
				}
				b.fails(api.ErrOp, op, num(1), args...)
				b.fails(api.ErrOp, op, sample.Bool(2), args...)
			}
		}
		for _, text := range []string{"a", " ", "\x00", "\xff"} {
			with := r
			with.Text = text
			b.refuses(api.ErrOp, with)
			with.Val = sample.Bool(2)
			b.refuses(api.ErrOp, with)
			with.Args = make([]int, len(r.Args))
			for i := range with.Args {
				with.Args[i] = -1
			}
			b.refuses(api.ErrOp, with)
		}
	}
}

// 27.1: handles that are none, in either place, ahead of what is wrong with numbers and values.
func TestHandlesThatAreNone(t *testing.T) {
	for op := 1; op <= lastOp; op++ {
		for place := range handlesOf(op) {
			b, of := furnished(t)
			r, _ := rightOf(op, of)
			for _, n := range []int{-1, b.h.Len(), b.h.Len() + 1, heap.MaxHandles, math.MinInt, math.MaxInt, 1 << 32} {
				args := append([]int(nil), r.Args...)
				args[place] = n
				b.fails(api.ErrHandle, op, r.Val, args...)
				b.fails(api.ErrHandle, op, sample.Bool(2), args...)
				for i := handlesOf(op); i < len(args); i++ {
					args[i] = -1
				}
				b.fails(api.ErrHandle, op, sample.Bool(2), args...)
			}
		}
	}
}

// 27.1: the first handle and the last one are there, one more is not.
func TestFirstAndLastHandle(t *testing.T) {
	b := begun(t)
	b.fails(api.ErrHandle, heap.OpTell, none(), 0)
	for n := range 5 {
		b.makes(heap.OpNew, none(), heap.HSet, 0)
		for i := -2; i < n+3; i++ {
			want := api.OK
			if i < 0 || i > n {
				want = api.ErrHandle
			}
			kind, e := b.h.Kind(i)
			if e != want || (kind == heap.HSet) != (e == api.OK) || (kind == 0) != (e != api.OK) {
				t.Errorf("Kind(%d) of %d: %d, %v", i, n+1, kind, e)
			}
			v, e := b.h.Tell(i)
			if e != want || (v.Kind == api.VSet) != (e == api.OK) || !sample.Same(v, none()) && e != api.OK {
				t.Errorf("Tell(%d) of %d: %v, %v", i, n+1, v, e)
			}
			if a := b.do(heap.OpSize, none(), i); a.Code != want {
				t.Errorf("OpSize %d of %d: %v", i, n+1, a)
			}
		}
	}
}

// 27.1: each op of each kind of handle: ErrWrong of those that its row does not name, ahead of what is wrong with numbers and values, and of no other one.
func TestKindsOfHandles(t *testing.T) {
	for op := 1; op <= lastOp; op++ {
		if handlesOf(op) != 1 {
			continue
		}
		for kind := heap.HMap; kind <= lastKind; kind++ {
			b, of := furnished(t)
			r := right(op, of[kind])
			if !model.Names(op, kind) {
				b.refuses(api.ErrWrong, r)
				r.Val = sample.Bool(2)
				b.refuses(api.ErrWrong, r)
				for i := 1; i < len(r.Args); i++ {
					r.Args[i] = -1
				}
				b.refuses(api.ErrWrong, r)
				continue
			}
			r.Val = member(kind, 1)
			if op == heap.OpGet || op == heap.OpLess {
				r.Val = num(1)
			}
			if a := b.h.Do(r); a.Code != api.OK {
				t.Errorf("%v of kind %d: %v", r, kind, a)
			}
		}
	}
}

// 27.1: OpJoin asks for two handles of one kind, OpSame for any two collections; what is wrong with the first one comes ahead of all that is wrong with the second one.
func TestKindsOfTwoHandles(t *testing.T) {
	b, of := furnished(t)
	for h := heap.HMap; h <= lastKind; h++ {
		for g := heap.HMap; g <= lastKind; g++ {
			join, same := api.OK, api.OK
			if h > heap.HMulti || g != h {
				join = api.ErrWrong
			}
			if h > heap.HBimap || g > heap.HBimap {
				same = api.ErrWrong
			}
			if a := b.do(heap.OpJoin, none(), of[h], of[g]); a.Code != join {
				t.Errorf("OpJoin of kinds %d, %d: %v", h, g, a)
			}
			if a := b.do(heap.OpSame, none(), of[h], of[g]); a.Code != same {
				t.Errorf("OpSame of kinds %d, %d: %v", h, g, a)
			}
		}
	}
	for _, op := range []int{heap.OpJoin, heap.OpSame} {
		for _, h := range []int{of[heap.HTrans], of[heap.HSeq]} {
			b.fails(api.ErrWrong, op, none(), h, -1)
			b.fails(api.ErrHandle, op, none(), -1, h)
			b.fails(api.ErrWrong, op, none(), h, h)
			b.fails(api.ErrWrong, op, none(), of[heap.HVec], h)
			b.fails(api.ErrWrong, op, none(), h, of[heap.HVec])
		}
		b.fails(api.ErrHandle, op, none(), -1, -1)
		b.fails(api.ErrHandle, op, none(), of[heap.HVec], -1)
	}
	b.fails(api.ErrWrong, heap.OpJoin, none(), of[heap.HBimap], -1)
}

// 27.1: Val is looked at where a row names it, and nowhere else.
func TestValWhereItIsNotNamed(t *testing.T) {
	named := map[int]int{heap.OpAdd: 1, heap.OpLess: 1, heap.OpGet: 1, heap.OpPush: 1, heap.OpIter: 1}
	for op := 1; op <= lastOp; op++ {
		for _, w := range sample.Wrongs() {
			b, of := furnished(t)
			r, _ := rightOf(op, of)
			r.Val = w
			if named[op] == 1 {
				b.refuses(api.ErrValue, r)
			} else if a := b.h.Do(r); a.Code != api.OK {
				t.Errorf("%v: %v", r, a)
			}
		}
	}
}
