package multi_test

import (
	"slices"
	"testing"

	"spinney/api"
	"spinney/model"
	"spinney/multi"
	"spinney/sample"
)

// checkEqual asks both ways whether two multimaps are equal.
func checkEqual(t *testing.T, a, b *multi.Map, want bool) {
	t.Helper()
	if multi.Equal(a, b) != want || multi.Equal(b, a) != want {
		t.Fatalf("Equal(%s, %s): %v, %v, want %v", short(a.Pairs()), short(b.Pairs()), multi.Equal(a, b), multi.Equal(b, a), want)
	}
}

// some are unlike pairs of a few keys and values.
func some(s *sample.Source, stock []api.Value, n int) []api.Pair {
	var out []api.Pair
	for range n {
		out = model.Add(out, stock[s.Below(len(stock))], stock[s.Below(len(stock))])
	}
	return out
}

// 20.3, 20.4: Turn by hand, and of none; Turn of Turn is it.
func TestTurn(t *testing.T) {
	s := sample.New(1)
	for kind := range api.MaxHash + 1 {
		m := of(t, kind, ints(1, 5, 1, 7, 2, 5))
		turned := m.Turn()
		check(t, turned, kind, ints(5, 1, 5, 2, 7, 1))
		checkGet(t, turned, num(5), num(1), num(2))
		checkEqual(t, m, turned, false)
		check(t, m, kind, ints(1, 5, 1, 7, 2, 5))
		check(t, must(t)(multi.New(kind)).Turn(), kind, nil)
		for range 4 {
			l := some(s, s.Keys(6), s.Below(30))
			m, turned := of(t, kind, l), of(t, kind, l).Turn()
			check(t, turned, kind, model.Turned(l))
			check(t, turned.Turn(), kind, l)
			checkEqual(t, turned.Turn(), m, true)
		}
	}
}

// 20.3, R7: Union by hand, in places of the first one's kind: under kind 39 the hash of 2 comes ahead of that of 1.
func TestUnionByHand(t *testing.T) {
	a, b := of(t, 39, ints(1, 1, 2, 2)), of(t, 32, ints(1, 2, 2, 2, 1, 1))
	checkPairs(t, must(t)(multi.Union(a, b)), ints(2, 2, 1, 2, 1, 1))
	checkPairs(t, must(t)(multi.Union(b, a)), ints(1, 1, 1, 2, 2, 2))
	both, again := must(t)(multi.Union(a, b)), must(t)(multi.Union(b, a))
	if both.Kind() != 39 || again.Kind() != 32 {
		t.Errorf("kinds %d, %d", both.Kind(), again.Kind())
	}
	set, _ := both.Get(num(1))
	other, _ := again.Get(num(1))
	if set.Kind() != 39 || other.Kind() != 32 {
		t.Errorf("sets of kinds %d, %d", set.Kind(), other.Kind())
	}
	check(t, a, 39, ints(1, 1, 2, 2))
	check(t, b, 32, ints(1, 2, 2, 2, 1, 1))
}

// 20.3: Equal by hand, of any kinds.
func TestEqualByHand(t *testing.T) {
	l := ints(1, 5, 1, 7, 2, 5)
	for kind := range api.MaxHash + 1 {
		m, other := of(t, kind, l), (kind*7+1)%(api.MaxHash+1)
		checkEqual(t, m, m, true)
		checkEqual(t, m, of(t, other, l), true)
		checkEqual(t, m, must(t)(m.Put(num(1), num(5))), true)
		// As many pairs, with another value, another key, a value under another key, or turned about.
		checkEqual(t, m, of(t, other, ints(1, 5, 1, 8, 2, 5)), false)
		checkEqual(t, m, of(t, other, ints(1, 5, 1, 7, 3, 5)), false)
		checkEqual(t, m, of(t, other, ints(1, 5, 2, 7, 2, 5)), false)
		checkEqual(t, m, m.Turn(), false)
		checkEqual(t, m, of(t, other, l[:2]), false)
		checkEqual(t, m, of(t, other, append(ints(3, 5), l...)), false)
		checkEqual(t, m, of(t, other, nil), false)
		checkEqual(t, of(t, kind, nil), of(t, other, nil), true)
	}
}

// 20.3, 20.5, R7: of all kinds, alike and unlike; both stay as they were.
func TestTwo(t *testing.T) {
	s := sample.New(2)
	for x := range api.MaxHash + 1 {
		for _, y := range []int{x, 0, 32, s.Below(api.MaxHash + 1)} {
			stock := s.Keys(6)
			l, m := some(s, stock, s.Below(20)), some(s, stock, s.Below(20))
			a, b := of(t, x, l), of(t, y, m)
			check(t, must(t)(multi.Union(a, b)), x, model.AddAll(l, m))
			check(t, must(t)(multi.Union(a, of(t, y, nil))), x, l)
			check(t, must(t)(multi.Union(of(t, x, nil), b)), x, m)
			check(t, must(t)(multi.Union(of(t, x, nil), of(t, y, nil))), x, nil)
			check(t, must(t)(multi.Union(a, of(t, y, l))), x, l)
			checkEqual(t, a, b, len(l) == len(m) && len(model.AddAll(l, m)) == len(l))
			checkEqual(t, a, of(t, y, sample.Shuffled(s, l)), true)
			check(t, a, x, l)
			check(t, b, y, m)
		}
	}
}

// 20.3: a multimap with itself.
func TestWithItself(t *testing.T) {
	for kind := range api.MaxHash + 1 {
		l := ints(1, 5, 1, 7, 2, 5)
		m := of(t, kind, l)
		check(t, must(t)(multi.Union(m, m)), kind, l)
		check(t, must(t)(multi.Union(m, m.Turn())), kind, slices.Concat(l, model.Turned(l)))
		check(t, m, kind, l)
	}
}

// P9: Union is associative, and hangs on the order of its arguments by the kind alone; Turn goes over it.
func TestLaws(t *testing.T) {
	s := sample.New(3)
	union := func(a, b *multi.Map) *multi.Map { return must(t)(multi.Union(a, b)) }
	for range 150 {
		stock := s.Keys(5)
		var maps [3]*multi.Map
		for i := range maps {
			maps[i] = of(t, s.Below(api.MaxHash+1), some(s, stock, s.Below(12)))
		}
		a, b, c := maps[0], maps[1], maps[2]
		left, right := union(union(a, b), c), union(a, union(b, c))
		checkEqual(t, left, right, true)
		checkPairs(t, left, right.Pairs())
		checkEqual(t, union(a, b), union(b, a), true)
		turned := union(a.Turn(), b.Turn())
		checkEqual(t, union(a, b).Turn(), turned, true)
		checkPairs(t, union(a, b).Turn(), turned.Pairs())
	}
}

// crossed are as many pairs as a multimap may have: 256 keys with 256 values each.
func crossed() []api.Pair {
	var out []api.Pair
	for k := range int64(256) {
		for v := range int64(256) {
			out = append(out, pair(num(k), num(v)))
		}
	}
	return out
}

// 20.1, 20.2: MaxLen pairs, and one more, in Of and Put: of one key, of as many keys, and of some of both.
func TestMaxLen(t *testing.T) {
	for name, l := range map[string][]api.Pair{"one key": values(num(7), api.MaxLen), "one value": model.Numbered(0, api.MaxLen, num(7)), "both": crossed()} {
		for _, kind := range []int{0, 5, 32} {
			full := of(t, kind, l)
			there, other := l[300], pair(num(7), str("more"))
			refused(t, api.ErrLong)(full.Put(other.Key, other.Val))
			refused(t, api.ErrLong)(full.Put(str("more"), num(7)))
			refused(t, api.ErrLong)(multi.Of(kind, append(l[:api.MaxLen:api.MaxLen], there)))
			again := must(t)(full.Put(there.Key, there.Val))
			fewer := must(t)(full.Drop(there.Key, there.Val))
			more := must(t)(fewer.Put(other.Key, other.Val))
			refused(t, api.ErrLong)(more.Put(there.Key, there.Val))
			if full.Len() != api.MaxLen || again.Len() != api.MaxLen || fewer.Len() != api.MaxLen-1 || more.Len() != api.MaxLen {
				t.Errorf("%s, kind %d: %d, %d, %d, %d pairs", name, kind, full.Len(), again.Len(), fewer.Len(), more.Len())
			}
			checkHas(t, more, other.Key, other.Val, true)
			checkHas(t, more, there.Key, there.Val, false)
			checkHas(t, full, there.Key, there.Val, true)
		}
		check(t, of(t, 3, l), 3, l)
	}
}

// 20.1: pairs that stand several times are many in a list all the same.
func TestOfMaxLenPairs(t *testing.T) {
	many := slices.Repeat(ints(1, 5, 1, 7), api.MaxLen/2)
	check(t, of(t, 0, many), 0, ints(1, 5, 1, 7))
	refused(t, api.ErrLong)(multi.Of(0, append(many, many[0])))
}

// 20.3: MaxLen pairs of two multimaps together, and one more; Turn of so many.
func TestTwoOfMaxLen(t *testing.T) {
	const half = api.MaxLen / 2
	for _, l := range [][]api.Pair{values(num(7), api.MaxLen), model.Numbered(0, api.MaxLen, num(7)), crossed()} {
		full, other := of(t, 0, l), of(t, 3, ints(7, 7, 7, -1))
		first, rest, over := of(t, 0, l[:half]), of(t, 3, l[half:]), of(t, 3, append(l[half:api.MaxLen:api.MaxLen], ints(7, -1)...))
		for _, two := range [][2]*multi.Map{{full, other}, {other, full}, {first, over}, {over, first}} {
			refused(t, api.ErrLong)(multi.Union(two[0], two[1]))
		}
		for _, m := range []*multi.Map{must(t)(multi.Union(first, rest)), must(t)(multi.Union(full, rest)), must(t)(multi.Union(rest, full)), must(t)(multi.Union(full, nil)), must(t)(multi.Union(nil, full)), full.Turn().Turn()} {
			checkEqual(t, m, full, true)
		}
		if turned := full.Turn(); turned.Len() != api.MaxLen {
			t.Errorf("%d pairs turned about", turned.Len())
		}
	}
	full := of(t, 0, model.Numbered(0, api.MaxLen, num(7)))
	check(t, must(t)(multi.Union(full, full)), 0, model.Numbered(0, api.MaxLen, num(7)))
	// Two that have nothing in common are far too long together.
	refused(t, api.ErrLong)(multi.Union(full, full.Turn()))
}
