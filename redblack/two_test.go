package redblack_test

import (
	"slices"
	"testing"

	"spinney/api"
	"spinney/model"
	"spinney/redblack"
	"spinney/sample"
)

// some are pairs of some of the keys, with values of a small stock, so that they are often the same.
func some(s *sample.Source, keys []api.Value) []api.Pair {
	var out []api.Pair
	for _, k := range sample.Shuffled(s, keys)[:s.Below(len(keys)+1)] {
		out = append(out, pair(k, s.Value(1)))
	}
	return out
}

// checkEqual asks both ways whether two maps are equal.
func checkEqual(t *testing.T, a, b *redblack.Map, want bool) {
	t.Helper()
	if redblack.Equal(a, b) != want || redblack.Equal(b, a) != want {
		t.Fatalf("Equal(%s, %s): %v, %v, want %v", short(a.Pairs()), short(b.Pairs()), redblack.Equal(a, b), redblack.Equal(b, a), want)
	}
}

// 14.4
func TestTurn(t *testing.T) {
	for from, line := range lines() {
		s := sample.New(uint64(from))
		for _, plain := range [][]api.Pair{nil, ints(1, 2), valued(line), some(s, s.Keys(40)), valued(sample.Numbers(1000))} {
			m := of(t, from, plain)
			for to := range api.MaxOrder + 1 {
				turned := must(t)(m.Turn(to))
				check(t, turned, to, plain)
				checkEqual(t, m, turned, true)
				check(t, must(t)(turned.Turn(from)), from, plain)
				more := must(t)(turned.Assoc(num(-7), num(7)))
				check(t, more, to, model.Put(plain, num(-7), num(7)))
			}
			check(t, m, from, plain)
			for _, to := range sample.Beyond(api.MaxOrder) {
				refused(t, api.ErrKind)(m.Turn(to))
			}
		}
	}
}

// 14.4: maps that differ in one key, in one value, in a value's kind alone.
func TestEqualByHand(t *testing.T) {
	base := ints(1, 5, 2, 6, 0, 0)
	for _, c := range []struct {
		other []api.Pair
		want  bool
	}{
		{base, true}, {ints(0, 0, 2, 6, 1, 5), true}, {ints(1, 5, 2, 6), false}, {ints(1, 5, 2, 6, 0, 0, 3, 0), false}, {ints(1, 5, 2, 6, 3, 0), false},
		{ints(1, 5, 2, 6, 0, 1), false}, {ints(1, 6, 2, 5, 0, 0), false}, {append(ints(1, 5, 2, 6), pair(num(0), none())), false}, {append(ints(1, 5, 2, 6), pair(none(), num(0))), false}, {nil, false},
	} {
		for x := range api.MaxOrder + 1 {
			for y := range api.MaxOrder + 1 {
				checkEqual(t, of(t, x, base), of(t, y, c.other), c.want)
			}
		}
	}
}

// 14.4: by hand: the first one's order, of keys in both the second one's value.
func TestUnionByHand(t *testing.T) {
	for _, c := range []struct{ a, b, want []api.Pair }{
		{nil, nil, nil}, {ints(1, 10), nil, ints(1, 10)}, {nil, ints(1, 10), ints(1, 10)},
		{ints(1, 10, 2, 20), ints(2, 21, 3, 30), ints(1, 10, 2, 21, 3, 30)}, {ints(2, 21, 3, 30), ints(1, 10, 2, 20), ints(1, 10, 2, 20, 3, 30)},
		{ints(1, 10), ints(1, 11), ints(1, 11)}, {ints(1, 10), []api.Pair{pair(num(1), none())}, []api.Pair{pair(num(1), none())}},
		{ints(-1, 0, 1, 0), ints(-2, 1, 2, 1), ints(-2, 1, -1, 0, 1, 0, 2, 1)},
	} {
		for x := range api.MaxOrder + 1 {
			for y := range api.MaxOrder + 1 {
				check(t, must(t)(redblack.Union(of(t, x, c.a), of(t, y, c.b))), x, c.want)
			}
		}
	}
	m := must(t)(redblack.Union(of(t, 5, ints(-1, 0, 1, 0)), of(t, 1, ints(-2, 1, 2, 1))))
	if l := m.Pairs(); m.Order() != 5 || !sample.SamePairs(l, ints(-1, 0, 1, 0, -2, 1, 2, 1)) {
		t.Errorf("order %d: %v", m.Order(), l)
	}
}

// 14.4, R7, P2: of all orders, alike and unlike; both maps stay as they were.
func TestTwoMaps(t *testing.T) {
	s := sample.New(9)
	for x, line := range lines() {
		for y := range api.MaxOrder + 1 {
			keys := model.Keys(model.PutAll(nil, valued(slices.Concat(line, s.Keys(15)))))
			a, b := some(s, keys), some(s, keys)
			for _, two := range [][2][]api.Pair{{a, b}, {b, a}, {a, a}, {a, nil}, {nil, a}, {a[:len(a)/2], a}, {a, a[len(a)/2:]}, {a[:len(a)/2], a[len(a)/2:]}} {
				m, n := of(t, x, two[0]), of(t, y, two[1])
				check(t, must(t)(redblack.Union(m, n)), x, model.PutAll(two[0], two[1]))
				same := len(two[0]) == len(two[1]) && !slices.ContainsFunc(two[0], func(p api.Pair) bool {
					i := model.Find(two[1], p.Key)
					return i < 0 || !sample.Same(two[1][i].Val, p.Val)
				})
				checkEqual(t, m, n, same)
				check(t, m, x, two[0])
				check(t, n, y, two[1])
			}
		}
	}
}

// 14.5: many maps put together, one behind the other, by turns and all over.
func TestUnionOfMany(t *testing.T) {
	for order := range api.MaxOrder + 1 {
		for _, place := range []func(i, k int) int{
			func(i, k int) int { return 50*i + k }, func(i, k int) int { return -50*i - k }, func(i, k int) int { return i + 40*k }, func(i, k int) int { return (i*7919 + k*104729) % 3000 },
		} {
			m := must(t)(redblack.New(order))
			keys := make(map[int]int64)
			for i := range 40 {
				var l []api.Pair
				for k := range 1 + i%50 {
					l = append(l, pair(num(int64(place(i, k))), num(int64(i))))
					keys[place(i, k)] = int64(i)
				}
				m = must(t)(redblack.Union(m, of(t, (order+i)%3, l)))
				checkFlat(t, m)
			}
			var plain []api.Pair
			for k, i := range keys {
				plain = append(plain, pair(num(int64(k)), num(i)))
			}
			check(t, m, order, plain)
		}
	}
}

// 14.1, 14.2, 14.4: MaxLen keys, and one more.
func TestMaxLen(t *testing.T) {
	all := model.Numbered(0, api.MaxLen, none())
	for order := range api.MaxOrder + 1 {
		plain := model.InOrder(order, all)
		full := must(t)(redblack.Rising(order, plain))
		checkEqual(t, of(t, order, all), full, true)
		refused(t, api.ErrLong)(full.Assoc(num(-1), none()))
		again := must(t)(full.Assoc(num(7), num(8)))
		checkGet(t, again, num(7), num(8), true)
		checkGet(t, full, num(7), none(), true)
		fewer := must(t)(again.Dissoc(num(7)))
		other := must(t)(fewer.Assoc(num(-1), num(9)))
		checkGet(t, other, num(-1), num(9), true)
		if again.Len() != api.MaxLen || fewer.Len() != api.MaxLen-1 || other.Len() != api.MaxLen {
			t.Errorf("order %d: %d, %d, %d keys", order, again.Len(), fewer.Len(), other.Len())
		}
		refused(t, api.ErrLong)(other.Assoc(num(7), none()))
		check(t, full, order, all)
	}
}

// 14.4: MaxLen keys of two maps together, and one more.
func TestUnionOfMaxLen(t *testing.T) {
	all := model.Numbered(0, api.MaxLen, none())
	for _, order := range []int{0, 2, 5} {
		other := (order + 1) % (api.MaxOrder + 1)
		full := of(t, order, all)
		halves := must(t)(redblack.Union(of(t, order, all[:api.MaxLen/2]), of(t, other, all[api.MaxLen/2:])))
		most := must(t)(redblack.Union(full, of(t, other, model.Numbered(5, 100, num(1)))))
		for _, m := range []*redblack.Map{halves, must(t)(redblack.Union(full, full)), must(t)(redblack.Union(full, nil))} {
			checkEqual(t, m, full, true)
			checkFlat(t, m)
		}
		checkEqual(t, most, of(t, order, slices.Concat(all[:5], model.Numbered(5, 100, num(1)), all[105:])), true)
		one := of(t, other, ints(-1, 0))
		refused(t, api.ErrLong)(redblack.Union(full, one))
		refused(t, api.ErrLong)(redblack.Union(one, full))
		refused(t, api.ErrLong)(redblack.Union(full, of(t, other, model.Numbered(1, api.MaxLen, none()))))
		refused(t, api.ErrLong)(redblack.Union(full, of(t, order, model.Numbered(-api.MaxLen, api.MaxLen, none()))))
		checkEqual(t, full, of(t, order, all), true)
	}
}

// 14.1: pairs of one key are many pairs all the same.
func TestOfMaxLenPairs(t *testing.T) {
	many := slices.Repeat(ints(1, 2, 3, 4), api.MaxLen/2)
	check(t, of(t, 0, many), 0, ints(1, 2, 3, 4))
	refused(t, api.ErrLong)(redblack.Of(0, append(many, ints(1, 2)...)))
}

// R6: a nil map is an empty one of order 0, and so is a zero one; what is made of it is not nil.
func TestNilMaps(t *testing.T) {
	for _, m := range []*redblack.Map{nil, {}} {
		check(t, m, 0, nil)
		checkGet(t, m, num(1), none(), false)
		check(t, must(t)(m.Assoc(num(1), num(2))), 0, ints(1, 2))
		check(t, must(t)(m.Dissoc(num(1))), 0, nil)
		for order := range api.MaxOrder + 1 {
			check(t, must(t)(m.Turn(order)), order, nil)
			some := of(t, order, ints(1, 2, 2, 3))
			check(t, must(t)(redblack.Union(m, some)), 0, ints(1, 2, 2, 3))
			check(t, must(t)(redblack.Union(some, m)), order, ints(1, 2, 2, 3))
			checkEqual(t, m, some, false)
			checkEqual(t, m, must(t)(redblack.New(order)), true)
		}
		for _, n := range []*redblack.Map{nil, {}} {
			check(t, must(t)(redblack.Union(m, n)), 0, nil)
			checkEqual(t, m, n, true)
		}
		for range m.All() {
			t.Errorf("a pair of none")
		}
		for _, order := range sample.Beyond(api.MaxOrder) {
			refused(t, api.ErrKind)(m.Turn(order))
		}
		for _, w := range sample.Wrongs() {
			checkErrors(t, m, w)
		}
		check(t, m, 0, nil)
	}
}

// checkErrors asks for what a map answers to a value that is not right.
func checkErrors(t *testing.T, m *redblack.Map, w api.Value) {
	t.Helper()
	if v, ok, e := m.Get(w); !sample.Same(v, none()) || ok || e != api.ErrValue {
		t.Errorf("Get(%s): %v, %v, %v", short(w), v, ok, e)
	}
	for _, p := range []api.Pair{pair(w, num(1)), pair(num(1), w), pair(num(-1), w), pair(w, w)} {
		refused(t, api.ErrValue)(m.Assoc(p.Key, p.Val))
	}
	refused(t, api.ErrValue)(m.Dissoc(w))
}

// R1, R4: values that are not right; also of a full map, where they come ahead of ErrLong.
func TestWrongValues(t *testing.T) {
	full := of(t, 3, model.Numbered(0, api.MaxLen, none()))
	for _, w := range sample.Wrongs() {
		for order := range api.MaxOrder + 1 {
			m := of(t, order, ints(1, 5, 2, 6))
			checkErrors(t, m, w)
			check(t, m, order, ints(1, 5, 2, 6))
			for _, l := range [][]api.Pair{{pair(w, none())}, {pair(none(), w)}, append(ints(1, 2), pair(w, w)), append(ints(1, 2), pair(num(3), w)), append(ints(3, 2, 3, 1, 2, 1), pair(w, none())), {pair(w, none()), pair(w, none())}} {
				refused(t, api.ErrValue)(redblack.Of(order, l))
				refused(t, api.ErrValue)(redblack.Rising(order, l))
			}
		}
		checkErrors(t, full, w)
	}
	if full.Len() != api.MaxLen {
		t.Errorf("%d keys", full.Len())
	}
}

// R1: the order ahead of the list, its length ahead of its members, and all of these ahead of keys that do not rise.
func TestWhichErrorComesFirst(t *testing.T) {
	long := slices.Repeat(ints(1, 2), api.MaxLen+1)
	wrong := []api.Pair{pair(sample.Bool(2), none())}
	for _, make := range []func(int, []api.Pair) (*redblack.Map, api.Errno){redblack.Of, redblack.Rising} {
		for _, order := range sample.Beyond(api.MaxOrder) {
			for _, l := range [][]api.Pair{nil, {}, ints(1, 2), ints(2, 1, 1, 1), wrong, long} {
				refused(t, api.ErrKind)(make(order, l))
			}
		}
		for order := range api.MaxOrder + 1 {
			for _, l := range [][]api.Pair{long, slices.Concat(wrong, long), slices.Concat(long[1:], wrong)} {
				refused(t, api.ErrLong)(make(order, l))
			}
			refused(t, api.ErrValue)(make(order, slices.Concat(long[2:], wrong)))
		}
	}
	refused(t, api.ErrArg)(redblack.Rising(0, long[1:]))
}
