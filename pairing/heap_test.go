package pairing

import (
	"math/bits"
	"slices"
	"testing"

	"spinney/api"
	"spinney/sample"
)

// checkHeap asks that no item stands ahead of the one above it, and how many there are.
func checkHeap(t *testing.T, h *heap, size int, ahead func(x, y api.Value) bool) {
	t.Helper()
	if h == nil {
		if size != 0 {
			t.Fatalf("no item, want %d", size)
		}
		return
	}
	heaps := []*heap{h}
	for i := 0; i < len(heaps); i++ {
		for _, below := range heaps[i].heapsBelow() {
			if ahead(below.item, heaps[i].item) {
				t.Fatalf("%v below %v", below.item, heaps[i].item)
			}
			heaps = append(heaps, below)
		}
	}
	if len(heaps) != size || len(h.items()) != size {
		t.Fatalf("%d items, %d told, want %d", len(heaps), len(h.items()), size)
	}
}

// 19.2: what Of, Push, Pop and Meld make are heaps.
func TestHeaps(t *testing.T) {
	for order := range api.MaxOrder + 1 {
		s := sample.New(uint64(order))
		ahead := byOrder(order)
		q, _ := New(order)
		for range 600 {
			if s.Below(5) < 3 {
				q, _ = q.Push(s.Value(2))
			} else if rest, _, e := q.Pop(); e == api.OK {
				q = rest
			}
			checkHeap(t, q.top, q.size, ahead)
			if s.Below(20) == 0 {
				other, _ := Of(s.Below(api.MaxOrder+1), s.Values(s.Below(30), 2))
				checkHeap(t, other.top, other.size, byOrder(other.order))
				both, _ := Meld(q, other)
				checkHeap(t, both.top, q.size+other.size, ahead)
			}
		}
	}
}

// counted is how two numbers stand, and how often that was asked.
func counted(times *int) func(x, y api.Value) bool {
	return func(x, y api.Value) bool {
		*times++
		return x.Num < y.Num
	}
}

// The chapter: pairing heaps. One item comes by one look at most; all go by some times log2(n) looks each, however the heap was made.
func TestLooks(t *testing.T) {
	const n = 1 << 14
	rising := sample.Numbers(n)
	falling := slices.Clone(rising)
	slices.Reverse(falling)
	for name, in := range map[string][]api.Value{"rising": rising, "falling": falling, "mixed": sample.Shuffled(sample.New(1), rising), "the same": make([]api.Value, n)} {
		times := 0
		ahead := counted(&times)
		var one *heap
		for _, x := range in {
			one = joined(one, &heap{item: x}, ahead)
		}
		if times >= n {
			t.Errorf("%s: %d looks for %d items that come", name, times, n)
		}
		times = 0
		all := grown(in, ahead)
		if times >= n {
			t.Errorf("%s: %d looks for %d items at once", name, times, n)
		}
		for _, h := range []*heap{one, all} {
			times = 0
			for h != nil {
				h = paired(h.heapsBelow(), ahead)
			}
			if most := 3 * n * bits.Len(n); times > most {
				t.Errorf("%s: %d looks for %d items that go, at most %d", name, times, n, most)
			}
		}
	}
}

// The chapter: while items come and go by turns, it stays at that.
func TestLooksByTurns(t *testing.T) {
	const n = 1 << 12
	s := sample.New(1)
	times := 0
	ahead := counted(&times)
	h := grown(sample.Shuffled(s, sample.Numbers(n)), ahead)
	for turn := range 10 * n {
		h = paired(h.heapsBelow(), ahead)
		next := s.Below(n)
		if turn/n%2 == 1 {
			next = turn
		}
		h = joined(h, &heap{item: sample.Num(int64(next))}, ahead)
	}
	if most := 3 * 10 * n * bits.Len(n); times > most {
		t.Errorf("%d looks, at most %d", times, most)
	}
	checkHeap(t, h, n, ahead)
}

// The chapter: queues share heaps, so that a change takes little memory, however many items there are.
func TestHeapsAreShared(t *testing.T) {
	const n = 30000
	q, _ := Of(0, sample.Numbers(n))
	other, _ := Of(0, sample.Numbers(n))
	x := sample.Num(-1)
	for name, call := range map[string]func(){
		"Push": func() { q.Push(x) },
		"Pop":  func() { q.Pop() },
		"Meld": func() { Meld(q, other) },
	} {
		if times := testing.AllocsPerRun(5, call); times > 200 {
			t.Errorf("%s: memory was taken %v times", name, times)
		}
	}
}
