package heap_test

import (
	"testing"

	"spinney/api"
	"spinney/heap"
	"spinney/model"
	"spinney/sample"
)

// sameAnswer tells whether two answers are the same in every field.
func sameAnswer(a, b api.Answer) bool {
	return a.Code == b.Code && a.Handle == b.Handle && sample.Same(a.Val, b.Val)
}

// unlike is the first handle of a heap that is not what a plain one's is, or says otherwise; -1, if there is none.
func unlike(h *heap.Heap, plain *model.Heap) int {
	for n := -1; n <= plain.Len(); n++ {
		kind, e := h.Kind(n)
		wantKind, wantError := plain.Kind(n)
		if kind != wantKind || e != wantError {
			return n
		}
		v, e := h.Tell(n)
		want, wantError := plain.Tell(n)
		if !sample.Same(v, want) || e != wantError {
			return n
		}
	}
	return -1
}

// 27.1 to 27.4: steps of all kinds, right ones and wrong ones, tell what plain lists tell; behind each of them all handles say what plain lists say.
func TestAgainstPlainLists(t *testing.T) {
	codes := map[api.Errno]int{}
	kinds := map[int]int{}
	for seed := range uint64(400) {
		s := sample.New(seed)
		h, plain := heap.New(), &model.Heap{}
		for range 60 {
			r := plain.Record(s)
			if s.Below(5) == 0 {
				r = model.Spoilt(s, r)
			}
			got, want := h.Do(r), plain.Do(r)
			if !sameAnswer(got, want) {
				t.Fatalf("seed %d, %v: %v, want %v", seed, r, got, want)
			}
			if n := unlike(h, plain); n >= 0 || h.Len() != plain.Len() {
				t.Fatalf("seed %d: behind %v handle %d is another one, of %d", seed, r, n, h.Len())
			}
			codes[got.Code]++
			kind, _ := h.Kind(got.Handle)
			kinds[kind]++
		}
	}
	for _, e := range []api.Errno{api.OK, api.ErrArg, api.ErrValue, api.ErrKind, api.ErrRange, api.ErrEmpty, api.ErrSeal, api.ErrNone, api.ErrFuel, api.ErrHandle, api.ErrWrong, api.ErrOp} {
		if codes[e] < 5 {
			t.Errorf("%v came %d times", e, codes[e])
		}
	}
	for kind := range heap.HSeq {
		if kinds[kind+1] < 5 {
			t.Errorf("kind %d came %d times", kind+1, kinds[kind+1])
		}
	}
	t.Log(codes, kinds)
}
