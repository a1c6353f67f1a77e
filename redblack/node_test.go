package redblack

import (
	"cmp"
	"fmt"
	"slices"
	"testing"

	"spinney/api"
	"spinney/sample"
)

// faultOf is what is wrong with a tree's nodes, "" if they are as they must be: no red one below a red one, as many black ones on each way down, and the measures those of the nodes below.
func faultOf[T any](n *node[T]) string {
	if n == nil {
		return ""
	}
	for _, below := range []*node[T]{n.left, n.right} {
		if fault := faultOf(below); fault != "" {
			return fault
		}
		if n.red && below.isRed() {
			return "a red node below a red one"
		}
	}
	l, r := n.left.measured(), n.right.measured()
	want := measures{l.size + 1 + r.size, 1 + max(l.high, r.high), l.blacks}
	if !n.red {
		want.blacks++
	}
	switch {
	case l.blacks != r.blacks:
		return fmt.Sprintf("%d black nodes on one side, %d on the other", l.blacks, r.blacks)
	case n.measures != want:
		return fmt.Sprintf("measures %v, want %v", n.measures, want)
	}
	return ""
}

// checkTree asks for a tree's nodes, and for its items.
func checkTree(t *testing.T, n *node[int], want []int) {
	t.Helper()
	if fault := faultOf(n); fault != "" {
		t.Fatalf("of %d items: %s", len(want), fault)
	}
	if got := slices.Collect(n.all()); !slices.Equal(got, want) {
		t.Fatalf("items %v, want %v", got, want)
	}
}

// numbers are those from one up to the one ahead of another.
func numbers(from, to int) []int {
	var out []int
	for i := from; i < to; i++ {
		out = append(out, i)
	}
	return out
}

// placed tells where a number stands to another one.
func placed(item int) func(int) int {
	return func(other int) int { return cmp.Compare(item, other) }
}

// stepped is a tree of items that were put in one by one, so that its shape is another one than that of a grown tree.
func stepped(s *sample.Source, items []int) *node[int] {
	var n *node[int]
	for _, item := range sample.Shuffled(s, items) {
		n = n.with(item, placed(item))
	}
	return n
}

// 14.5: a grown tree of any length is as low as can be, and black at its top.
func TestNodesOfGrown(t *testing.T) {
	least := 0
	for n := range 3000 {
		if n >= 1<<least {
			least++
		}
		top := grown(numbers(0, n))
		checkTree(t, top, numbers(0, n))
		if top.isRed() || top.measured().high != least {
			t.Fatalf("of %d items: red %v, %d levels for %d", n, top.isRed(), top.measured().high, least)
		}
	}
}

// 14.5: trees of all pairs of lengths, red and black at their tops, are joined, and split again at each place.
func TestNodesOfJoinAndSplit(t *testing.T) {
	s := sample.New(1)
	lengths := []int{0, 1, 2, 3, 4, 5, 7, 8, 15, 16, 31, 33, 100, 500}
	for _, a := range lengths {
		for _, b := range lengths {
			left, right := numbers(0, a), numbers(a+1, a+1+b)
			for _, l := range []*node[int]{grown(left), stepped(s, left), stepped(s, left).black()} {
				for _, r := range []*node[int]{grown(right), stepped(s, right), stepped(s, right).black()} {
					both := join(l, a, r)
					checkTree(t, both, numbers(0, a+1+b))
					at := s.Below(a + b + 1)
					ahead, behind := both.split(placed(at))
					checkTree(t, ahead, numbers(0, at))
					checkTree(t, behind, numbers(at+1, a+1+b))
					checkTree(t, l, left)
					checkTree(t, r, right)
				}
			}
		}
	}
}

// 14.5, 14.6: items come and go at random, many times over; older trees stay as they were.
func TestNodesOfChains(t *testing.T) {
	type version struct {
		top   *node[int]
		items []int
	}
	for seed := range uint64(10) {
		s := sample.New(seed)
		now := version{}
		versions := []version{now}
		for range 1500 {
			item := s.Below(200)
			at, there := slices.BinarySearch(now.items, item)
			items := slices.Clone(now.items)
			if s.Below(2) == 0 {
				if !there {
					items = slices.Insert(items, at, item)
				}
				now = version{now.top.with(item, placed(item)), items}
			} else {
				if there {
					items = slices.Delete(items, at, at+1)
				}
				now = version{now.top.without(placed(item)), items}
			}
			checkTree(t, now.top, now.items)
			versions = append(versions, now)
		}
		for _, v := range versions {
			checkTree(t, v.top, v.items)
		}
	}
}

// 14.5: put in and taken out from one end, from the other, and from within.
func TestNodesOfRuns(t *testing.T) {
	const most = 600
	rising := numbers(0, most)
	falling := slices.Clone(rising)
	slices.Reverse(falling)
	mixed := sample.Shuffled(sample.New(1), rising)
	for _, in := range [][]int{rising, falling, mixed} {
		for _, out := range [][]int{rising, falling, mixed} {
			var top *node[int]
			for n, item := range in {
				top = top.with(item, placed(item))
				checkTree(t, top, slices.Sorted(slices.Values(in[:n+1])))
			}
			for n, item := range out {
				top = top.without(placed(item))
				checkTree(t, top, slices.Sorted(slices.Values(out[n+1:])))
			}
		}
	}
}

// 14.4, 14.5: of two trees that meet, one of which lies within the other, and that do not; of the same items the second one's.
func TestNodesOfUnion(t *testing.T) {
	type item struct{ key, of int }
	byKey := func(a, b item) int { return cmp.Compare(a.key, b.key) }
	s := sample.New(1)
	for range 500 {
		from, most := s.Below(2)*s.Below(200), 1+s.Below(150)
		var a, b *node[item]
		whose := make(map[int]int)
		for range s.Below(100) {
			x := item{s.Below(most), 1}
			a = a.with(x, func(other item) int { return byKey(x, other) })
			whose[x.key] = 1
		}
		for range s.Below(100) {
			x := item{from + s.Below(most), 2}
			b = b.with(x, func(other item) int { return byKey(x, other) })
			whose[x.key] = 2
		}
		both := union(a, b, byKey)
		if fault := faultOf(both); fault != "" {
			t.Fatal(fault)
		}
		told := slices.Collect(both.all())
		if len(told) != len(whose) || !slices.IsSortedFunc(told, byKey) {
			t.Fatalf("%v of %v", told, whose)
		}
		for _, x := range told {
			if whose[x.key] != x.of {
				t.Fatalf("%v, want %d", x, whose[x.key])
			}
		}
	}
}

// 14.5: trees of many lengths are cut at each place, and the two parts put together again.
func TestNodesOfCut(t *testing.T) {
	s := sample.New(1)
	for _, n := range []int{0, 1, 2, 3, 4, 5, 7, 8, 15, 16, 31, 33, 100, 300} {
		for _, top := range []*node[int]{grown(numbers(0, n)), stepped(s, numbers(0, n)), stepped(s, numbers(0, n)).black()} {
			for at := -1; at <= n+1; at++ {
				ahead, behind := top.cut(at)
				first := min(max(at, 0), n)
				checkTree(t, ahead, numbers(0, first))
				checkTree(t, behind, numbers(first, n))
				checkTree(t, together(ahead, behind), numbers(0, n))
				checkTree(t, top, numbers(0, n))
			}
		}
	}
}

// 14.5: of two trees that meet, one of which lies within the other, and that do not.
func TestNodesOfLess(t *testing.T) {
	s := sample.New(2)
	for range 500 {
		from, most := s.Below(2)*s.Below(200), 1+s.Below(150)
		var a, b *node[int]
		for range s.Below(100) {
			x := s.Below(most)
			a = a.with(x, placed(x))
		}
		for range s.Below(100) {
			x := from + s.Below(most)
			b = b.with(x, placed(x))
		}
		var want []int
		for x := range a.all() {
			if b.find(placed(x)) == nil {
				want = append(want, x)
			}
		}
		was, other := slices.Collect(a.all()), slices.Collect(b.all())
		checkTree(t, less(a, b, cmp.Compare[int]), want)
		checkTree(t, a, was)
		checkTree(t, b, other)
	}
}

// 14.5, 14.6: what Assoc, Dissoc, Union and the calls for other layers make keeps to the rules, is black at its top, and shares nodes with what it was made of.
func TestNodesOfMaps(t *testing.T) {
	s := sample.New(1)
	var pairs []api.Pair
	for _, k := range sample.Numbers(500) {
		pairs = append(pairs, api.Pair{Key: k})
	}
	for order := range api.MaxOrder + 1 {
		m, _ := Of(order, pairs)
		for range 400 {
			k := sample.Num(int64(s.Below(600)))
			more, _ := m.Assoc(k, sample.Num(1))
			less, _ := more.Dissoc(sample.Num(int64(s.Below(600))))
			both, _ := Union(less, more)
			cut := both.Slice(s.Below(600), s.Below(600))
			for _, made := range []*Map{more, less, both, cut, Less(both, cut), Less(cut, less)} {
				if fault := faultOf(made.top); fault != "" || made.top.isRed() {
					t.Fatalf("order %d: %s", order, fault)
				}
			}
			m = less
		}
	}
}

// The chapter: a change makes the nodes on its way anew, and shares all others.
func TestNodesAreShared(t *testing.T) {
	const n = 50000
	var pairs []api.Pair
	for _, k := range sample.Numbers(n) {
		pairs = append(pairs, api.Pair{Key: k})
	}
	m, _ := Rising(0, pairs)
	few, _ := Of(0, pairs[n/2:n/2+3])
	k := sample.Num(n / 3)
	for name, call := range map[string]func(){
		"Assoc":  func() { m.Assoc(k, k) },
		"Dissoc": func() { m.Dissoc(k) },
		"Union":  func() { Union(m, few) },
		"Turn":   func() { m.Turn(0) },
		"Slice":  func() { m.Slice(n/3, n/2) },
		"Less":   func() { Less(m, few) },
	} {
		if times := testing.AllocsPerRun(5, call); times > 500 {
			t.Errorf("%s: memory was taken %v times", name, times)
		}
	}
}
