package model_test

import (
	"testing"

	"spinney/api"
	"spinney/heap"
	"spinney/model"
	"spinney/sample"
	"spinney/value"
)

// taking looks what a plain seq tells.
func taking(t *testing.T, s *model.Seq, n, fuel, left int, e api.Errno, want ...int64) {
	t.Helper()
	got, rest, code := s.Take(n, fuel)
	same := len(got) == len(want) && rest == left && code == e
	for i := range got {
		same = same && sample.Same(got[i], sample.Num(want[i]))
	}
	if !same {
		t.Errorf("Take(%d, %d): %v, %d, %v, want %v, %d, %v", n, fuel, got, rest, code, want, left, e)
	}
}

func TestSeq(t *testing.T) {
	known := model.SeqOf(sample.Numbers(3))
	taking(t, known, 2, 0, 0, api.OK, 0, 1)
	taking(t, known, 9, 5, 5, api.OK, 0, 1, 2)
	iter := model.Iterated(api.FnInc, sample.Num(5))
	taking(t, iter, 1, 0, 0, api.ErrFuel)
	taking(t, iter, 2, 3, 1, api.OK, 5, 6)
	taking(t, iter, 2, 0, 0, api.OK, 5, 6)
	// Two cells below are known: the third takes two.
	mapped := iter.Mapped(api.FnNeg)
	taking(t, mapped, 3, 3, 0, api.ErrFuel)
	taking(t, mapped, 3, 9, 7, api.OK, -5, -6, -7)
	taking(t, iter, 3, 0, 0, api.OK, 5, 6, 7)
	kept := iter.Kept(api.IsEven)
	taking(t, kept, 1, 1, 0, api.OK, 6)
	taking(t, kept, 2, 1, 0, api.ErrFuel)
	taking(t, kept, 2, 2, 0, api.OK, 6, 8)
	none := known.Kept(api.IsNil)
	taking(t, none, 5, 1, 0, api.OK)
	taking(t, none, 5, 0, 0, api.OK)
}

// Chapter 27, example 1.
func TestHeap(t *testing.T) {
	h := &model.Heap{}
	five, six := sample.Num(5), sample.Num(6)
	for _, x := range []struct {
		r    api.Record
		want api.Answer
	}{
		{api.Record{Op: heap.OpNew, Args: []int{heap.HVec, 0}}, api.Answer{Handle: 0}},
		{api.Record{Op: heap.OpAdd, Args: []int{0}, Val: five}, api.Answer{Handle: 1}},
		{api.Record{Op: heap.OpTell, Args: []int{0}}, api.Answer{Handle: -1, Val: sample.List()}},
		{api.Record{Op: heap.OpTell, Args: []int{1}}, api.Answer{Handle: -1, Val: sample.List(five)}},
		{api.Record{Op: heap.OpBegin, Args: []int{1}}, api.Answer{Handle: 2}},
		{api.Record{Op: heap.OpPush, Args: []int{2}, Val: six}, api.Answer{Handle: -1}},
		{api.Record{Op: heap.OpTell, Args: []int{1}}, api.Answer{Handle: -1, Val: sample.List(five)}},
		{api.Record{Op: heap.OpSeal, Args: []int{2}}, api.Answer{Handle: 3}},
		{api.Record{Op: heap.OpTell, Args: []int{3}}, api.Answer{Handle: -1, Val: sample.List(five, six)}},
		{api.Record{Op: heap.OpPush, Args: []int{2}, Val: six}, api.Answer{Code: api.ErrSeal, Handle: -1}},
		{api.Record{Op: heap.OpGet, Args: []int{3}, Val: six}, api.Answer{Code: api.ErrWrong, Handle: -1}},
		{api.Record{Op: heap.OpTell, Args: []int{9}}, api.Answer{Code: api.ErrHandle, Handle: -1}},
		{api.Record{Op: 20}, api.Answer{Code: api.ErrOp, Handle: -1}},
	} {
		if a := h.Do(x.r); a.Code != x.want.Code || a.Handle != x.want.Handle || !sample.Same(a.Val, x.want.Val) {
			t.Errorf("%v: %v, want %v", x.r, a, x.want)
		}
	}
	if kind, e := h.Kind(2); h.Len() != 4 || kind != heap.HTrans || e != api.OK {
		t.Errorf("%d handles, kind %d, %v", h.Len(), kind, e)
	}
	if _, e := h.Tell(2); e != api.ErrSeal {
		t.Errorf("Tell of a sealed one: %v", e)
	}
	if _, e := h.Kind(4); e != api.ErrHandle {
		t.Errorf("Kind(4): %v", e)
	}
}

func TestTableOfOps(t *testing.T) {
	for _, x := range []struct {
		op, kind     int
		names, makes bool
		args         int
	}{
		{heap.OpNew, 0, false, true, 2}, {heap.OpAdd, heap.HBimap, true, true, 1}, {heap.OpAdd, heap.HTrans, false, true, 1}, {heap.OpPop, heap.HTrans, true, false, 1}, {heap.OpPop, heap.HVec, true, true, 1},
		{heap.OpTake, heap.HSeq, true, false, 3}, {heap.OpTell, heap.HTrans, true, false, 1}, {heap.OpTell, heap.HSeq, false, false, 1}, {0, heap.HMap, false, false, -1}, {20, 12, false, false, -1}, {-1, -1, false, false, -1},
	} {
		if model.Names(x.op, x.kind) != x.names || model.Makes(x.op, x.kind) != x.makes || model.Args(x.op) != x.args {
			t.Errorf("op %d of kind %d: %v, %v, %d", x.op, x.kind, model.Names(x.op, x.kind), model.Makes(x.op, x.kind), model.Args(x.op))
		}
	}
}

// Records are asked as the table says, with right values; spoilt ones leave the first one as it was.
func TestRecord(t *testing.T) {
	s, h := sample.New(3), &model.Heap{}
	for range 2000 {
		r := h.Record(s)
		if len(r.Args) != model.Args(r.Op) || value.Check(r.Val) != api.OK || r.Text != "" {
			t.Fatalf("%v", r)
		}
		op, args := r.Op, append([]int(nil), r.Args...)
		model.Spoilt(s, r)
		if r.Op != op || len(r.Args) != len(args) || len(args) > 0 && r.Args[0] != args[0] {
			t.Fatalf("spoilt: %v", r)
		}
		if h.Len() < 100 {
			h.Do(r)
		}
	}
}
