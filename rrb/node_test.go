package rrb

import (
	"fmt"
	"slices"
	"testing"

	"spinney/api"
	"spinney/sample"
)

// faultOf is what is wrong with a tree's nodes, "" if they are as they must be: all leaves on one level, the ends those of the nodes below, no node with too many places, and none with too few but the top one and those on the right edge.
func faultOf(top node) string {
	if top == nil {
		return ""
	}
	if b, ok := top.(*branch); ok && len(b.below) < 2 {
		return "a branch of one node at the top"
	}
	return faultBelow(top, height(top), 1)
}

// faultBelow is likewise for a node on a level from the bottom, of which so many places are asked.
func faultBelow(n node, level, least int) string {
	l, isLeaf := n.(*leaf)
	if isLeaf != (level == 1) {
		return "a leaf on another level"
	}
	if isLeaf {
		return faultOfPlaces(len(l.items), least)
	}
	b := n.(*branch)
	if len(b.below) != len(b.ends) {
		return "ends missing"
	}
	end := 0
	for i, below := range b.below {
		leastBelow := fewest
		if least == 1 && i == len(b.below)-1 {
			leastBelow = 1
		}
		if fault := faultBelow(below, level-1, leastBelow); fault != "" {
			return fault
		}
		if end += below.size(); b.ends[i] != end {
			return fmt.Sprintf("end %d for %d", b.ends[i], end)
		}
	}
	return faultOfPlaces(len(b.below), least)
}

func faultOfPlaces(n, least int) string {
	if n < least || n > places {
		return fmt.Sprintf("%d places, %d at least", n, least)
	}
	return ""
}

func checkNodes(t *testing.T, v *Vec) {
	t.Helper()
	if fault := faultOf(v.top); fault != "" {
		t.Fatalf("of %d items: %s", v.Len(), fault)
	}
}

// 11.4: what the height hangs on holds of vectors of all lengths.
func TestNodesOfGrown(t *testing.T) {
	for n := range 3000 {
		checkNodes(t, &Vec{top: grown(sample.Numbers(n))})
	}
	checkNodes(t, &Vec{top: grown(sample.Numbers(api.MaxLen))})
}

// 11.4, 12.6: and of vectors that are cut and joined at random, many times over.
func TestNodesOfChains(t *testing.T) {
	for seed := range uint64(20) {
		s := sample.New(seed)
		pool := []*Vec{New()}
		for _, n := range []int{1, 15, 33, 100, 1024, 1025, 5000} {
			v, _ := Of(sample.Numbers(n))
			pool = append(pool, v)
		}
		for range 3000 {
			a, b := pool[s.Below(len(pool))], pool[s.Below(len(pool))]
			made, e := stepped(s, a, b)
			if e != api.OK {
				t.Fatalf("%v", e)
			}
			checkNodes(t, made)
			if made.Len() < api.MaxLen/2 {
				pool[s.Below(len(pool))] = made
			}
		}
		for _, v := range pool {
			checkNodes(t, v)
		}
	}
}

// stepped is a vector made of two by one call.
func stepped(s *sample.Source, a, b *Vec) (*Vec, api.Errno) {
	switch s.Below(6) {
	case 0, 1:
		return Join(a, b)
	case 2:
		return a.First(s.Below(a.Len() + 1))
	case 3:
		return a.Rest(s.Below(a.Len() + 1))
	case 4:
		return a.Push(sample.Num(1))
	}
	i := s.Below(a.Len() + 1)
	head, _ := a.First(i)
	tail, _ := a.Rest(i)
	return Join(tail, b, head)
}

// 11.4: trees of every pair of heights, with the right edge of the first one as short as can be.
func TestNodesOfShortEdges(t *testing.T) {
	for _, n := range []int{1, 2, 16, 32, 33, 1024, 1025, 32768, 32769} {
		for _, m := range []int{1, 2, 16, 31, 32, 33, 34, 1024, 1025, 1026, 30000} {
			a, b := grown(sample.Numbers(n)), grown(sample.Numbers(m))
			both := &Vec{top: joined(a, b)}
			checkNodes(t, both)
			if both.Len() != n+m {
				t.Fatalf("%d and %d: %d", n, m, both.Len())
			}
			for _, cut := range []int{1, 15, 16, 17, n - 1, n, n + 1, n + m - 1} {
				if cut > 0 && cut < n+m {
					checkNodes(t, &Vec{top: first(both.top, cut)})
					checkNodes(t, &Vec{top: rest(both.top, cut)})
				}
			}
		}
	}
}

// What fit tells never has room that belongs to another list, and has all entries in their order.
func TestFit(t *testing.T) {
	for n := range places + 1 {
		for m := 1; m <= places; m++ {
			a, b := sample.Numbers(n), sample.Numbers(m)
			lists := fit(a, b)
			if !sample.SameAll(slices.Concat(lists...), slices.Concat(a, b)) {
				t.Fatalf("%d and %d: %v", n, m, lists)
			}
			if len(lists) > 2 || len(lists) == 2 && (n+m <= places || len(lists[0]) < fewest || len(lists[1]) < min(m, fewest)) {
				t.Fatalf("%d and %d: %d lists", n, m, len(lists))
			}
			for i, l := range lists {
				if faultOfPlaces(len(l), 1) != "" || i == 0 && len(lists) == 2 && cap(l) > len(l) {
					t.Fatalf("%d and %d: list %d of %d, room for %d", n, m, i, len(l), cap(l))
				}
			}
		}
	}
}

// Lists that are cut have no room to spare: what is written behind them would be another vector's.
func TestCutsHaveNoRoom(t *testing.T) {
	l := &leaf{sample.Numbers(35)[:30]}
	for n := 1; n < 30; n++ {
		if cut := head(l, n).(*leaf); cap(cut.items) != n {
			t.Errorf("head of %d: room for %d", n, cap(cut.items))
		}
		if cut := rest(l, n).(*leaf); cap(cut.items) != 30-n {
			t.Errorf("rest of %d: room for %d", n, cap(cut.items))
		}
	}
}
