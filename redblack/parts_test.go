package redblack_test

import (
	"math"
	"slices"
	"testing"

	"spinney/api"
	"spinney/model"
	"spinney/redblack"
	"spinney/sample"
)

// pairsOf are a part's pairs, from node to node; checked on the way: how many they are.
func pairsOf(t *testing.T, p redblack.Part) []api.Pair {
	t.Helper()
	if p.Len() == 0 {
		return nil
	}
	l := slices.Concat(pairsOf(t, p.Ahead()), []api.Pair{p.Pair()}, pairsOf(t, p.Behind()))
	if p.Len() != len(l) {
		t.Fatalf("a part of %d pairs has %d", p.Len(), len(l))
	}
	return l
}

// The parts of a map are its pairs, and each node tells where a key stands to its own.
func TestParts(t *testing.T) {
	for order, line := range lines() {
		want := valued(line)
		whole := of(t, order, sample.Shuffled(sample.New(1), want)).Whole()
		if l := pairsOf(t, whole); !sample.SamePairs(l, want) {
			t.Errorf("order %d: %s, want %s", order, short(l), short(want))
		}
		for i, k := range line {
			steps := 0
			part := whole
			for ; part.Stand(k) != 0; steps++ {
				if part.Stand(k) < 0 {
					part = part.Ahead()
				} else {
					part = part.Behind()
				}
			}
			if p := part.Pair(); !sample.SamePairs([]api.Pair{p}, want[i:i+1]) || steps > 8 {
				t.Errorf("order %d: %s behind %d steps, want %s", order, short(p), steps, short(want[i]))
			}
		}
	}
}

func TestPartsOfNone(t *testing.T) {
	var m *redblack.Map
	for _, p := range []redblack.Part{{}, m.Whole(), new(redblack.Map).Whole(), of(t, 5, nil).Whole(), of(t, 5, ints(1, 2)).Whole().Ahead(), of(t, 5, ints(1, 2)).Whole().Behind()} {
		if p.Len() != 0 || !sample.SamePairs([]api.Pair{p.Pair()}, []api.Pair{{}}) || p.Stand(num(1)) != 0 || p.Ahead().Len() != 0 || p.Behind().Len() != 0 {
			t.Errorf("a part of none has %d: %v", p.Len(), p.Pair())
		}
	}
}

// R3
func TestPartsTellNewMemory(t *testing.T) {
	m := of(t, 0, model.Nested())
	p := m.Whole().Pair()
	sample.Spoil(p.Key.Items)
	sample.Spoil(p.Val.Items)
	check(t, m, 0, model.Nested())
}

func TestSlice(t *testing.T) {
	s := sample.New(3)
	for order := range api.MaxOrder + 1 {
		for _, n := range []int{0, 1, 2, 3, 10, 30} {
			want := model.InOrder(order, valued(s.Keys(n)))
			m := of(t, order, want)
			for from := range n + 1 {
				for to := range n + 1 {
					check(t, m.Slice(from, to), order, want[min(from, to):to])
				}
			}
			for _, far := range []int{n, n + 1, math.MaxInt} {
				for _, low := range []int{0, -1, math.MinInt} {
					check(t, m.Slice(low, far), order, want)
					check(t, m.Slice(far, low), order, nil)
					check(t, m.Slice(low, low), order, nil)
					check(t, m.Slice(far, far), order, nil)
				}
			}
			check(t, m, order, want)
		}
	}
	var m *redblack.Map
	check(t, m.Slice(0, 0), 0, nil)
	check(t, m.Slice(-1, 1), 0, nil)
}

func TestLess(t *testing.T) {
	s := sample.New(4)
	for x, line := range lines() {
		for y := range api.MaxOrder + 1 {
			keys := model.Keys(model.PutAll(nil, valued(slices.Concat(line, s.Keys(15)))))
			a, b := some(s, keys), some(s, keys)
			for _, two := range [][2][]api.Pair{{a, b}, {b, a}, {a, a}, {a, nil}, {nil, a}, {a[:len(a)/2], a}, {a, a[len(a)/2:]}, {a[:len(a)/2], a[len(a)/2:]}} {
				m, n := of(t, x, two[0]), of(t, y, two[1])
				left := slices.Clone(two[0])
				for _, p := range two[1] {
					left = model.Drop(left, p.Key)
				}
				check(t, redblack.Less(m, n), x, left)
				check(t, m, x, two[0])
				check(t, n, y, two[1])
			}
		}
	}
	some := of(t, 5, ints(1, 2, 2, 3))
	for _, m := range []*redblack.Map{nil, {}} {
		check(t, redblack.Less(m, some), 0, nil)
		check(t, redblack.Less(some, m), 5, ints(1, 2, 2, 3))
		check(t, redblack.Less(m, m), 0, nil)
	}
}
