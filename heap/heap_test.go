package heap_test

import (
	"testing"

	"spinney/api"
	"spinney/heap"
	"spinney/sample"
)

// Ops and kinds end here.
const (
	lastOp   = heap.OpTell
	lastKind = heap.HSeq
)

func num(n int64) api.Value                 { return sample.Num(n) }
func str(s string) api.Value                { return sample.Str(s) }
func list(items ...api.Value) api.Value     { return sample.List(items...) }
func set(items ...api.Value) api.Value      { return sample.Set(items...) }
func dict(items ...api.Value) api.Value     { return sample.Map(items...) }
func none() api.Value                       { return api.Value{} }
func record(op int, args ...int) api.Record { return api.Record{Op: op, Args: args} }

func nums(l ...int64) []api.Value {
	var out []api.Value
	for _, n := range l {
		out = append(out, num(n))
	}
	return out
}

// bench is a heap under test.
type bench struct {
	t *testing.T
	h *heap.Heap
}

func begun(t *testing.T) bench { return bench{t, heap.New()} }

func (b bench) do(op int, v api.Value, args ...int) api.Answer {
	return b.h.Do(api.Record{Op: op, Args: args, Val: v})
}

// makes is the handle that a step makes, the next one; nothing is told besides.
func (b bench) makes(op int, v api.Value, args ...int) int {
	b.t.Helper()
	next := b.h.Len()
	if a := b.do(op, v, args...); !sameAnswer(a, api.Answer{Handle: next}) || b.h.Len() != next+1 {
		b.t.Fatalf("op %d %v of %v: %v, want handle %d", op, args, v, a, next)
	}
	return next
}

// tells looks whether a step tells a value, and makes no handle.
func (b bench) tells(want api.Value, op int, v api.Value, args ...int) {
	b.t.Helper()
	n := b.h.Len()
	if a := b.do(op, v, args...); !sameAnswer(a, api.Answer{Handle: -1, Val: want}) || b.h.Len() != n {
		b.t.Errorf("op %d %v of %v: %v, want %v", op, args, v, a, want)
	}
}

// refuses looks whether a record tells an error, and nothing besides, and changes nothing (27.3).
func (b bench) refuses(want api.Errno, r api.Record) {
	b.t.Helper()
	was := snapshot(b.h)
	if a := b.h.Do(r); !sameAnswer(a, api.Answer{Code: want, Handle: -1}) {
		b.t.Errorf("%v: %v, want %v", r, a, want)
	}
	if n := was.unlike(snapshot(b.h)); n >= 0 {
		b.t.Errorf("%v: changed handle %d", r, n)
	}
}

// fails is refuses of a step.
func (b bench) fails(want api.Errno, op int, v api.Value, args ...int) {
	b.t.Helper()
	b.refuses(want, api.Record{Op: op, Args: args, Val: v})
}

// says looks what a handle says, by both calls that tell it.
func (b bench) says(n int, want api.Value) {
	b.t.Helper()
	if v, e := b.h.Tell(n); e != api.OK || !sample.Same(v, want) {
		b.t.Errorf("Tell(%d): %v, %v, want %v", n, v, e, want)
	}
	b.tells(want, heap.OpTell, none(), n)
}

// of is a new collection with members that are added one by one.
func (b bench) of(kind, k int, members ...api.Value) int {
	b.t.Helper()
	n := b.makes(heap.OpNew, none(), kind, k)
	for _, v := range members {
		n = b.makes(heap.OpAdd, v, n)
	}
	return n
}

// told is what a handle is, and says, at some time.
type told struct {
	kind int
	v    api.Value
	e    api.Errno
}

type snap []told

func snapshot(h *heap.Heap) snap {
	var out snap
	for n := range h.Len() {
		kind, _ := h.Kind(n)
		v, e := h.Tell(n)
		out = append(out, told{kind, v, e})
	}
	return out
}

// unlike is the first handle that is not the same in both, -1 if all are.
func (s snap) unlike(other snap) int {
	if len(s) != len(other) {
		return min(len(s), len(other))
	}
	for n := range s {
		if s[n].kind != other[n].kind || s[n].e != other[n].e || !sample.Same(s[n].v, other[n].v) {
			return n
		}
	}
	return -1
}

// member is a member for a collection of a kind.
func member(kind int, n int64) api.Value {
	switch kind {
	case heap.HMap, heap.HSorted, heap.HMulti, heap.HBimap:
		return list(num(n), str("v"))
	}
	return num(n)
}

// furnished is a heap with a handle of each kind, each with one member (1, or 1 and "v"), and the handle of each.
func furnished(t *testing.T) (bench, [lastKind + 1]int) {
	t.Helper()
	b := begun(t)
	var of [lastKind + 1]int
	for kind := heap.HMap; kind <= heap.HBimap; kind++ {
		of[kind] = b.of(kind, 0, member(kind, 1))
	}
	of[heap.HTrans] = b.makes(heap.OpBegin, none(), of[heap.HVec])
	of[heap.HSeq] = b.makes(heap.OpSeq, none(), of[heap.HVec])
	return b, of
}

// Chapter 27, example 1, and the document's examples 6 and 10.
func TestExamples(t *testing.T) {
	b := begun(t)
	if b.h == nil || b.h.Len() != 0 {
		t.Fatalf("New: %v", b.h)
	}
	if n := b.makes(heap.OpNew, none(), 3, 0); n != 0 {
		t.Errorf("handle %d", n)
	}
	if n := b.makes(heap.OpAdd, num(5), 0); n != 1 {
		t.Errorf("handle %d", n)
	}
	b.tells(list(), heap.OpTell, none(), 0)
	b.tells(list(num(5)), heap.OpTell, none(), 1)
	if n := b.makes(heap.OpBegin, none(), 1); n != 2 {
		t.Errorf("handle %d", n)
	}
	b.tells(none(), heap.OpPush, num(6), 2)
	b.tells(list(num(5)), heap.OpTell, none(), 1)
	if n := b.makes(heap.OpSeal, none(), 2); n != 3 {
		t.Errorf("handle %d", n)
	}
	b.tells(list(num(5), num(6)), heap.OpTell, none(), 3)
	b.fails(api.ErrSeal, heap.OpPush, num(6), 2)

	two := b.of(heap.HVec, 0, nums(1, 2)...)
	open := b.makes(heap.OpBegin, none(), two)
	b.tells(none(), heap.OpPush, num(3), open)
	b.says(b.makes(heap.OpSeal, none(), open), list(nums(1, 2, 3)...))
	b.fails(api.ErrSeal, heap.OpPush, num(3), open)
}

// The document's examples 1, 2, 7 and 8, by way of a heap.
func TestExamplesOfTheWhole(t *testing.T) {
	b := begun(t)
	risen, fallen := b.of(heap.HSet, 0, nums(1, 2, 3)...), b.of(heap.HSet, 0, nums(3, 2, 1)...)
	b.tells(sample.Bool(1), heap.OpSame, none(), risen, fallen)
	b.tells(num(439094965), heap.OpHash, none(), risen)
	b.tells(num(439094965), heap.OpHash, none(), fallen)
	b.tells(num(2277397642), heap.OpHash, none(), b.of(heap.HVec, 0))
	b.tells(num(736442005), heap.OpHash, none(), b.of(heap.HVec, 0, nums(1, 2, 3)...))

	from0 := b.makes(heap.OpIter, num(0), api.FnInc)
	from1 := b.makes(heap.OpMap, none(), from0, api.FnInc)
	b.tells(list(nums(1, 2)...), heap.OpTake, none(), from1, 2, 4)
	b.tells(list(nums(1, 2)...), heap.OpTake, none(), from1, 2, 0)
	less := b.makes(heap.OpMap, none(), b.makes(heap.OpIter, num(0), api.FnInc), api.FnInc)
	b.fails(api.ErrFuel, heap.OpTake, none(), less, 2, 3)

	queue := b.of(heap.HQueue, 5, nums(-2, 1, 0)...)
	b.says(queue, list(nums(0, 1, -2)...))
}
