package finger

import (
	"fmt"
	"slices"
	"testing"

	"spinney/api"
	"spinney/sample"
)

// faultOf is what is wrong with a tree whose parts are nodes so many levels deep, "" if it is as it must be: so many parts at its ends, all of that depth, and measures that are the sums of the items' own.
func faultOf(t *tree[api.Value], level int) string {
	if t == nil {
		return ""
	}
	single := len(t.front) == 1 && len(t.back) == 0 && t.middle == nil
	if !single && (len(t.front) < 1 || len(t.front) > most || len(t.back) < 1 || len(t.back) > most) {
		return fmt.Sprintf("on level %d: %d parts at the front, %d at the back", level, len(t.front), len(t.back))
	}
	want := t.middle.measured()
	for _, p := range slices.Concat(t.front, t.back) {
		if fault := faultOfPart(p, level); fault != "" {
			return fault
		}
		want = want.and(p.measured())
	}
	if t.sum != want {
		return fmt.Sprintf("on level %d: measure %v for %v", level, t.sum, want)
	}
	return faultOf(t.middle, level+1)
}

func faultOfPart(p part[api.Value], level int) string {
	if level == 0 {
		if l, ok := p.(*leaf[api.Value]); !ok || l.measure != measureOf(l.kept) {
			return "no leaf, or one of another measure"
		}
		return ""
	}
	n, ok := p.(*node[api.Value])
	if !ok || len(n.parts) < 2 || len(n.parts) > 3 {
		return fmt.Sprintf("on level %d: no node of two or three parts", level)
	}
	var want measure
	for _, below := range n.parts {
		if fault := faultOfPart(below, level-1); fault != "" {
			return fault
		}
		want = want.and(below.measured())
	}
	if n.measure != want {
		return fmt.Sprintf("on level %d: a node's measure %v for %v", level, n.measure, want)
	}
	return ""
}

func checkTree(t *testing.T, d *Deque) {
	t.Helper()
	if fault := faultOf(d.whole, 0); fault != "" {
		t.Fatalf("of %d items: %s", d.Len(), fault)
	}
}

// 17.3: what the height hangs on holds of deques of all lengths.
func TestTreesOfGrown(t *testing.T) {
	for n := range 2000 {
		checkTree(t, &Deque{whole: grown(kept(sample.Numbers(n)))})
	}
	checkTree(t, &Deque{whole: grown(kept(sample.Numbers(api.MaxLen)))})
}

// 17.3: a tree of h levels may have as few as 3 * 2^(h-1) - 2 items, and no fewer: the least one is one level below the bound.
func TestLeastTrees(t *testing.T) {
	least := 1
	for h := 1; h <= 16; h++ {
		d := &Deque{whole: leastOf(h, leafOf(sample.Num(7)))}
		checkTree(t, d)
		if d.Height() != h || d.Len() != least || 1<<(h-1) > d.Len() {
			t.Errorf("%d levels: %d items, %d levels", h, d.Len(), d.Height())
		}
		least = 2*least + 2
		if d.Len() > 1 {
			_, rest := d.whole.popFront()
			checkTree(t, &Deque{whole: rest})
			rest, _ = d.whole.popBack()
			checkTree(t, &Deque{whole: rest})
		}
	}
}

// leastOf is a tree of so many levels with as few parts as can be.
func leastOf(levels int, p part[api.Value]) *tree[api.Value] {
	one := []part[api.Value]{p}
	if levels == 1 {
		return made(one, nil, nil)
	}
	return made(one, leastOf(levels-1, nodeOf([]part[api.Value]{p, p})), one)
}

// 17.3, 18.6: and of deques that are cut and joined, grown and used up at random, many times over.
func TestTreesOfChains(t *testing.T) {
	for seed := range uint64(10) {
		s := sample.New(seed)
		pool := []*Deque{New()}
		for _, n := range []int{1, 2, 3, 8, 9, 33, 100, 1024, 5000} {
			d, _ := Of(sample.Numbers(n))
			pool = append(pool, d)
		}
		for range 1000 {
			a, b := pool[s.Below(len(pool))], pool[s.Below(len(pool))]
			for _, made := range stepped(s, a, b) {
				if made.Len() < api.MaxLen/2 {
					checkTree(t, made)
					pool[s.Below(len(pool))] = made
				}
			}
		}
	}
}

// stepped are deques made of two by one call.
func stepped(s *sample.Source, a, b *Deque) []*Deque {
	at := s.Below(a.Len() + 1)
	switch s.Below(7) {
	case 0:
		both, _ := Join(a, b)
		return []*Deque{both}
	case 1:
		head, tail, _ := a.Cut(at)
		return []*Deque{head, tail}
	case 2:
		head, tail, _ := a.Cut(at)
		turned, _ := Join(tail, b, head)
		return []*Deque{turned}
	case 3:
		made, _ := a.Front(sample.Num(1))
		return []*Deque{made}
	case 4:
		made, _ := a.Back(sample.Num(1))
		return []*Deque{made}
	case 5:
		if at < a.Len() {
			made, _ := a.Set(at, sample.Num(9))
			return []*Deque{made}
		}
	}
	if a.Len() == 0 {
		return nil
	}
	p, _, _ := a.PopFront()
	q, _, _ := a.PopBack()
	return []*Deque{p, q}
}

// Parts are put together into nodes of two and three, in their order; each node has memory of its own.
func TestNodes(t *testing.T) {
	for n := 2; n < 40; n++ {
		parts := kept(sample.Numbers(n))
		out := nodes(parts)
		var below []part[api.Value]
		for _, p := range out {
			if fault := faultOfPart(p, 1); fault != "" {
				t.Fatalf("%d parts: %s", n, fault)
			}
			below = append(below, p.below()...)
		}
		if !slices.Equal(below, parts) || len(out) != (n+2)/3 {
			t.Errorf("%d parts: %d in %d nodes", n, len(below), len(out))
		}
		clear(parts)
		if fault := faultOfPart(out[0], 1); fault != "" {
			t.Errorf("%d parts: %s behind the list was cleared", n, fault)
		}
	}
}
