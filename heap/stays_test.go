package heap_test

import (
	"testing"

	"spinney/api"
	"spinney/heap"
	"spinney/model"
	"spinney/sample"
)

// begins are the first items of each seq of a heap, as far as they come with some fuel.
func begins(h *heap.Heap) []api.Answer {
	out := make([]api.Answer, h.Len())
	for n := range out {
		out[n] = h.Do(api.Record{Op: heap.OpTake, Args: []int{n, 3, 40}})
	}
	return out
}

// 27.2, 27.3: behind a step each handle that was there ahead of it, but the HTrans that it names, says what it said; behind one that tells an error that one, too, and there is no handle more.
func TestNothingOlderChanges(t *testing.T) {
	changes, errors := 0, 0
	for seed := range uint64(150) {
		s := sample.New(seed + 5000)
		h, plain := heap.New(), &model.Heap{}
		for range 50 {
			r := plain.Record(s)
			if s.Below(4) == 0 {
				r = model.Spoilt(s, r)
			}
			seqs, was := begins(h), snapshot(h)
			a := h.Do(r)
			plain.Do(r)
			now := snapshot(h)
			named := -1
			if a.Code == api.OK && (r.Op == heap.OpPush || r.Op == heap.OpPop || r.Op == heap.OpSeal) {
				named = r.Args[0]
			}
			for n := range was {
				if was[n:n+1].unlike(now[n:n+1]) < 0 {
					continue
				}
				changes++
				if n != named || was[n].kind != heap.HTrans {
					t.Fatalf("seed %d: %v (%v) changed handle %d: %v, then %v", seed, r, a, n, was[n], now[n])
				}
			}
			for n, first := range begins(h)[:len(seqs)] {
				// What came is for ever; with a seq that was forced further, more comes with the same fuel.
				if seqs[n].Code != api.ErrFuel && !sameAnswer(first, seqs[n]) {
					t.Fatalf("seed %d: %v changed seq %d: %v, then %v", seed, r, n, seqs[n], first)
				}
			}
			if a.Code != api.OK {
				errors++
			}
			if a.Code != api.OK && h.Len() != len(was) || h.Len() != plain.Len() {
				t.Fatalf("seed %d: %v (%v): %d handles, then %d", seed, r, a, len(was), h.Len())
			}
		}
	}
	if changes < 50 || errors < 500 {
		t.Errorf("%d transients changed, %d errors: too few to tell", changes, errors)
	}
}

// R6: the same steps tell the same, on any heap.
func TestSameAgain(t *testing.T) {
	for seed := range uint64(30) {
		s := sample.New(seed + 9000)
		a, b, plain := heap.New(), heap.New(), &model.Heap{}
		for range 60 {
			r := plain.Record(s)
			plain.Do(r)
			if first, second := a.Do(r), b.Do(r); !sameAnswer(first, second) {
				t.Fatalf("%v: %v, then %v", r, first, second)
			}
		}
		if n := snapshot(a).unlike(snapshot(b)); n >= 0 {
			t.Errorf("seed %d: handle %d", seed, n)
		}
	}
}
