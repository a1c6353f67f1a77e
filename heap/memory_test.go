package heap_test

import (
	"slices"
	"testing"

	"spinney/api"
	"spinney/heap"
	"spinney/model"
	"spinney/sample"
)

// nested is a member for a collection of a kind that holds lists in lists, in memory of its own.
func nested(kind int, n int64) api.Value {
	v := list(num(n), list(str("a"), set(num(n), list(num(n)))))
	if member(kind, n).Kind == api.VList {
		v = list(v, list(num(n), list(dict(str("b"), list(num(n))))))
	}
	return sample.Roomy(v)
}

// stocked is a heap with a handle of each kind, each with three members that hold lists.
func stocked(t *testing.T) (bench, [lastKind + 1]int) {
	t.Helper()
	b := begun(t)
	var of [lastKind + 1]int
	for kind := heap.HMap; kind <= heap.HBimap; kind++ {
		of[kind] = b.of(kind, 0, nested(kind, 1), nested(kind, 2), nested(kind, 3))
	}
	of[heap.HTrans] = b.makes(heap.OpBegin, none(), of[heap.HVec])
	of[heap.HSeq] = b.makes(heap.OpMap, none(), b.makes(heap.OpSeq, none(), of[heap.HVec]), api.FnSame)
	return b, of
}

// asking are records of each op of each kind that its row names, with Vals that are there and that are not.
func asking(of [lastKind + 1]int) []api.Record {
	var out []api.Record
	for op := 1; op <= lastOp; op++ {
		for kind := heap.HMap; kind <= lastKind; kind++ {
			if handlesOf(op) > 0 && !model.Names(op, kind) {
				continue
			}
			handles := make([]int, handlesOf(op))
			for i := range handles {
				handles[i] = of[kind]
			}
			for n := range int64(3) {
				r := right(op, handles...)
				r.Val = nested(kind, n)
				out = append(out, r)
				r.Val = sample.Roomy(keyOf(nested(kind, n)))
				if member(kind, n).Kind != api.VList {
					r.Val = nested(kind, n+2)
				}
				out = append(out, r)
			}
		}
	}
	return out
}

// R3: what is handed in stays as it is, spare room too, and is not kept; an answer shares no memory with it, with another answer, with what the heap keeps.
func TestMemory(t *testing.T) {
	_, of := stocked(t)
	for _, r := range asking(of) {
		b, _ := stocked(t)
		given := api.Record{Op: r.Op, Args: append(make([]int, 0, 9), r.Args...), Val: sample.Roomy(r.Val)}
		first := b.h.Do(given)
		if !slices.Equal(given.Args, r.Args) || !slices.Equal(given.Args[:9], append(slices.Clone(r.Args), make([]int, 9-len(r.Args))...)) {
			t.Errorf("%v: Args changed: %v", r, given.Args[:9])
		}
		if !sample.Same(given.Val, r.Val) || !sample.RoomKept(given.Val.Items) {
			t.Errorf("%v: Val changed: %v", r, given.Val)
		}
		was := snapshot(b.h)
		again, _ := b.h.Tell(b.h.Len() - 1)
		if !sample.Apart(first.Val.Items, given.Val.Items, again.Items, was[len(was)-1].v.Items) {
			t.Errorf("%v: shares memory", r)
		}
		spoiltOf(first, given, again)
		if n := was.unlike(snapshot(b.h)); n >= 0 {
			t.Errorf("%v: keeps what was handed in, or hands out what it keeps: handle %d", r, n)
		}
	}
}

// spoiltOf writes over all that was handed in and told.
func spoiltOf(told api.Answer, given api.Record, v api.Value) {
	sample.Spoil(told.Val.Items)
	sample.Spoil(given.Val.Items)
	sample.Spoil(v.Items)
	for i := range given.Args {
		given.Args[i] = -7
	}
}

// R3: what a step tells is told again, in other memory, whatever was done to the first answer.
func TestToldAgain(t *testing.T) {
	_, of := stocked(t)
	for _, r := range asking(of) {
		if model.Makes(r.Op, heap.HVec) || r.Op == heap.OpPush {
			continue
		}
		b, _ := stocked(t)
		first := b.h.Do(r)
		want := sample.Roomy(first.Val)
		second := b.h.Do(r)
		if !sample.Apart(first.Val.Items, second.Val.Items) {
			t.Errorf("%v: two answers share memory", r)
		}
		sample.Spoil(first.Val.Items)
		third := b.h.Do(r)
		if !sample.Same(second.Val, want) || !sample.Same(third.Val, want) || second.Code != first.Code {
			t.Errorf("%v: %v, then %v, %v", r, want, second, third)
		}
	}
}

// R3: seqs keep nothing of what was handed in, either, and hand out nothing that they keep.
func TestMemoryOfSeqs(t *testing.T) {
	b := begun(t)
	v := nested(heap.HVec, 1)
	iter := b.makes(heap.OpIter, v, api.FnSame)
	mapped := b.makes(heap.OpMap, none(), iter, api.FnWrap)
	kept := b.makes(heap.OpKeep, none(), iter, api.IsColl)
	sample.Spoil(v.Items)
	for _, n := range []int{iter, kept, mapped} {
		want := nested(heap.HVec, 1)
		if n == mapped {
			want = list(want)
		}
		for range 2 {
			a := b.do(heap.OpTake, none(), n, 2, 9)
			if !sample.SameAll(a.Val.Items, []api.Value{want, want}) || !sample.Apart(a.Val.Items) {
				t.Errorf("handle %d: %v", n, a)
			}
			sample.Spoil(a.Val.Items)
		}
	}
}
