package sset_test

import (
	"slices"
	"testing"

	"spinney/api"
	"spinney/sample"
	"spinney/sset"
)

// checkEqual asks both ways whether two sets are equal.
func checkEqual(t *testing.T, a, b *sset.Set, want bool) {
	t.Helper()
	if sset.Equal(a, b) != want || sset.Equal(b, a) != want {
		t.Fatalf("Equal(%s, %s): %v, %v, want %v", short(a.Items()), short(b.Items()), sset.Equal(a, b), sset.Equal(b, a), want)
	}
}

// checkTwo asks for all that is made of two sets, against plain lists.
func checkTwo(t *testing.T, x, y int, a, b []api.Value) {
	t.Helper()
	s, u := of(t, x, a), of(t, y, b)
	both, left, right := where(a, b, true), where(a, b, false), where(b, a, false)
	check(t, must(t)(sset.Union(s, u)), x, slices.Concat(a, right))
	check(t, sset.Meet(s, u), x, both)
	check(t, sset.Less(s, u), x, left)
	checkEqual(t, s, u, len(left)+len(right) == 0)
	check(t, s, x, a)
	check(t, u, y, b)
}

// 16.5: by hand, in places of the first one's order.
func TestTwoByHand(t *testing.T) {
	a, b := of(t, 5, ints(-2, 1, 0)), of(t, 1, ints(1, 7, -2, -7))
	checkItems(t, must(t)(sset.Union(a, b)), ints(0, 1, -2, -7, 7))
	checkItems(t, must(t)(sset.Union(b, a)), ints(7, 1, 0, -2, -7))
	checkItems(t, sset.Meet(a, b), ints(1, -2))
	checkItems(t, sset.Meet(b, a), ints(1, -2))
	checkItems(t, sset.Less(a, b), ints(0))
	checkItems(t, sset.Less(b, a), ints(7, -7))
	for _, s := range []*sset.Set{must(t)(sset.Union(a, b)), sset.Meet(a, b), sset.Less(a, b)} {
		if s.Order() != 5 {
			t.Errorf("order %d", s.Order())
		}
	}
	checkEqual(t, a, b, false)
	checkEqual(t, a, of(t, 1, ints(0, 1, -2)), true)
	// As many members, one of which is another one, or of another kind.
	checkEqual(t, a, of(t, 5, ints(0, 1, 2)), false)
	checkEqual(t, a, of(t, 5, []api.Value{none(), num(1), num(-2)}), false)
	checkEqual(t, a, of(t, 5, ints(0, 1)), false)
}

// 16.5, 16.6, R7: of all orders, alike and unlike; both sets stay as they were.
func TestTwoSets(t *testing.T) {
	source := sample.New(5)
	for x, line := range lines() {
		for y := range api.MaxOrder + 1 {
			stock := each(slices.Concat(line, source.Keys(20)))
			half := len(stock) / 2
			a, b := sample.Shuffled(source, stock)[:source.Below(len(stock))], sample.Shuffled(source, stock)[:source.Below(len(stock))]
			checkTwo(t, x, y, a, b)
			checkTwo(t, x, y, a, a)
			checkTwo(t, x, y, a, nil)
			checkTwo(t, x, y, nil, a)
			checkTwo(t, x, y, nil, nil)
			checkTwo(t, x, y, stock, a)
			checkTwo(t, x, y, a, stock)
			checkTwo(t, x, y, stock[:half], stock[half:])
			checkTwo(t, x, y, stock[:half], stock[half-1:half+1])
			checkTwo(t, x, y, stock[:1], stock[1:2])
			checkTwo(t, x, y, stock[:half], sample.Shuffled(source, stock[:half]))
		}
	}
}

// 16.5: a set with itself.
func TestWithItself(t *testing.T) {
	for order, line := range lines() {
		s := of(t, order, line)
		check(t, must(t)(sset.Union(s, s)), order, line)
		check(t, sset.Meet(s, s), order, line)
		check(t, sset.Less(s, s), order, nil)
		checkEqual(t, s, s, true)
	}
}

// 16.6: sets of many put together, met and lessened are flat: that lie one behind the other, by turns, and all over.
func TestTwoOfMany(t *testing.T) {
	for order := range api.MaxOrder + 1 {
		for _, place := range []func(i, k int) int{
			func(i, k int) int { return 50*i + k }, func(i, k int) int { return -50*i - k }, func(i, k int) int { return i + 40*k }, func(i, k int) int { return (i*7919 + k*104729) % 3000 },
		} {
			s := must(t)(sset.New(order))
			there := make(map[int]int)
			for i := range 40 {
				var l []api.Value
				for k := range 1 + i%50 {
					l = append(l, num(int64(place(i, k))))
					there[place(i, k)]++
				}
				other := of(t, (order+i)%3, l)
				s = must(t)(sset.Union(s, other))
				checkFlat(t, s)
				rest, part := sset.Less(s, other), sset.Meet(s, other)
				checkFlat(t, rest)
				checkFlat(t, part)
				if part.Len() != other.Len() || rest.Len() != s.Len()-other.Len() {
					t.Fatalf("order %d: %d and %d of %d", order, part.Len(), rest.Len(), s.Len())
				}
			}
			var plain []api.Value
			for k := range there {
				plain = append(plain, num(int64(k)))
			}
			check(t, s, order, plain)
		}
	}
}

// laws are pairs of sets that the laws say are the same, by names.
func laws(t *testing.T, a, b, c *sset.Set) map[string][2]*sset.Set {
	union := func(a, b *sset.Set) *sset.Set { return must(t)(sset.Union(a, b)) }
	meet, less := sset.Meet, sset.Less
	return map[string][2]*sset.Set{
		"Union turned about":   {union(a, b), union(b, a)},
		"Meet turned about":    {meet(a, b), meet(b, a)},
		"Union associates":     {union(union(a, b), c), union(a, union(b, c))},
		"Meet associates":      {meet(meet(a, b), c), meet(a, meet(b, c))},
		"Meet goes over Union": {meet(a, union(b, c)), union(meet(a, b), meet(a, c))},
		"Union goes over Meet": {union(a, meet(b, c)), meet(union(a, b), union(a, c))},
		"Less of Union":        {less(a, union(b, c)), meet(less(a, b), less(a, c))},
		"Less of Meet":         {less(a, meet(b, c)), union(less(a, b), less(a, c))},
		"Less of Union, first": {less(union(a, b), c), union(less(a, c), less(b, c))},
		"Union takes up Meet":  {union(a, meet(a, b)), a},
		"Meet takes up Union":  {meet(a, union(a, b)), a},
		"a's members, parted":  {union(less(a, b), meet(a, b)), a},
		"b goes and comes":     {union(less(a, b), b), union(a, b)},
	}
}

// 16.7, P9
func TestLaws(t *testing.T) {
	source := sample.New(8)
	for range 400 {
		var sets [3]*sset.Set
		order := source.Below(api.MaxOrder + 1)
		mixed := source.Below(2) == 0
		for i := range sets {
			if mixed {
				order = source.Below(api.MaxOrder + 1)
			}
			sets[i] = of(t, order, source.Values(source.Below(12), 1))
		}
		a, b, c := sets[0], sets[1], sets[2]
		for name, two := range laws(t, a, b, c) {
			checkEqual(t, two[0], two[1], true)
			// What is told is of the first one's order; of alike orders it comes in one order.
			if two[0].Order() == two[1].Order() && !sample.SameAll(two[0].Items(), two[1].Items()) {
				t.Errorf("%s: %v, %v", name, two[0].Items(), two[1].Items())
			}
			if two[0].Order() != a.Order() || !mixed && two[1].Order() != a.Order() {
				t.Errorf("%s: orders %d, %d of %d", name, two[0].Order(), two[1].Order(), a.Order())
			}
		}
		left, both := sset.Less(a, b), sset.Meet(a, b)
		if left.Len()+both.Len() != a.Len() || sset.Meet(left, both).Len() != 0 || sset.Meet(left, b).Len() != 0 || sset.Less(both, b).Len() != 0 {
			t.Errorf("parted: %v, %v of %v", left.Items(), both.Items(), a.Items())
		}
	}
}

// 16.1, 16.2: MaxLen members, and one more.
func TestMaxLen(t *testing.T) {
	for order := range api.MaxOrder + 1 {
		l := sample.Numbers(api.MaxLen)
		full := of(t, order, l)
		refused(t, api.ErrLong)(full.Conj(num(-1)))
		refused(t, api.ErrLong)(full.Conj(list(num(7))))
		checkEqual(t, must(t)(full.Conj(num(7))), full, true)
		fewer := must(t)(full.Disj(num(7)))
		other := must(t)(fewer.Conj(num(-1)))
		refused(t, api.ErrLong)(other.Conj(num(7)))
		if fewer.Len() != api.MaxLen-1 || other.Len() != api.MaxLen {
			t.Errorf("order %d: %d, %d members", order, fewer.Len(), other.Len())
		}
		checkHas(t, other, num(-1), true)
		checkHas(t, other, num(7), false)
		if order%5 == 0 {
			check(t, full, order, l)
		}
	}
}

// 16.1: members that stand twice are many in a list all the same.
func TestOfMaxLenMembers(t *testing.T) {
	many := slices.Repeat(ints(1, 3), api.MaxLen/2)
	check(t, of(t, 0, many), 0, ints(1, 3))
	refused(t, api.ErrLong)(sset.Of(0, append(many, num(1))))
}

// 16.5: MaxLen members of two sets together, and one more.
func TestTwoOfMaxLen(t *testing.T) {
	const half = api.MaxLen / 2
	for _, order := range []int{0, 2, 5} {
		other := (order + 1) % (api.MaxOrder + 1)
		full, beside := of(t, order, numbers(0, api.MaxLen)), of(t, other, numbers(-1, 2))
		first, rest, over := of(t, order, numbers(0, half)), of(t, other, numbers(half, half)), of(t, other, numbers(half, half+1))
		shifted := of(t, order, numbers(half, api.MaxLen))
		for _, two := range [][2]*sset.Set{{full, beside}, {beside, full}, {first, over}, {over, first}, {full, shifted}, {shifted, full}} {
			refused(t, api.ErrLong)(sset.Union(two[0], two[1]))
		}
		for _, s := range []*sset.Set{must(t)(sset.Union(first, rest)), must(t)(sset.Union(full, first)), must(t)(sset.Union(full, full)), must(t)(sset.Union(full, nil)), sset.Less(full, nil), sset.Meet(full, full)} {
			checkEqual(t, s, full, true)
			checkFlat(t, s)
		}
		for _, s := range []*sset.Set{sset.Meet(full, first), sset.Less(full, shifted), sset.Less(full, rest), sset.Meet(first, full)} {
			checkEqual(t, s, first, true)
			checkFlat(t, s)
		}
		if sset.Less(full, full).Len() != 0 || sset.Meet(full, beside).Len() != 1 || sset.Less(full, beside).Len() != api.MaxLen-1 || sset.Less(beside, full).Len() != 1 {
			t.Errorf("order %d: Less and Meet of many", order)
		}
	}
}
