package redblack_test

import (
	"fmt"
	"slices"
	"testing"

	"spinney/api"
	"spinney/champ"
	"spinney/hash"
	"spinney/model"
	"spinney/redblack"
	"spinney/sample"
	"spinney/value"
)

func none() api.Value                    { return api.Value{} }
func num(n int64) api.Value              { return sample.Num(n) }
func str(s string) api.Value             { return sample.Str(s) }
func list(items ...api.Value) api.Value  { return sample.List(items...) }
func dict(items ...api.Value) api.Value  { return sample.Map(items...) }
func pair(k, v api.Value) api.Pair       { return api.Pair{Key: k, Val: v} }
func ints(l ...int64) []api.Pair         { return model.Ints(l...) }
func valued(keys []api.Value) []api.Pair { return model.Valued(keys) }
func lines() [][]api.Value               { return sample.Lines() }

// reversed is a list the other way round.
func reversed[T any](l []T) []T {
	out := slices.Clone(l)
	slices.Reverse(out)
	return out
}

// short is what a failing test shows of something that may be long.
func short(x any) string {
	s := fmt.Sprint(x)
	return s[:min(len(s), 200)]
}

// must is a map that came without an error.
func must(t *testing.T) func(*redblack.Map, api.Errno) *redblack.Map {
	return func(m *redblack.Map, e api.Errno) *redblack.Map {
		t.Helper()
		if m == nil || e != api.OK {
			t.Fatalf("no map: %v", e)
		}
		return m
	}
}

// of is a map of pairs.
func of(t *testing.T, order int, l []api.Pair) *redblack.Map {
	t.Helper()
	return must(t)(redblack.Of(order, l))
}

// refused is for what must have been no map, but an error.
func refused(t *testing.T, want api.Errno) func(*redblack.Map, api.Errno) {
	return func(m *redblack.Map, e api.Errno) {
		t.Helper()
		if m != nil || e != want {
			t.Fatalf("%v, want %v", e, want)
		}
	}
}

// check asks a map everything, against a plain list of pairs with unlike keys.
func check(t *testing.T, m *redblack.Map, order int, plain []api.Pair) {
	t.Helper()
	if wrong := model.WrongOfSorted(m, order, plain); wrong != "" {
		t.Fatalf("%s is wrong: %s of order %d, %d high, want %s of order %d", wrong, short(m.Pairs()), m.Order(), m.Height(), short(plain), order)
	}
}

func checkGet(t *testing.T, m *redblack.Map, k, want api.Value, there bool) {
	t.Helper()
	if v, ok, e := m.Get(k); !sample.Same(v, want) || ok != there || e != api.OK {
		t.Fatalf("Get(%s): %s, %v, %v, want %s, %v", short(k), short(v), ok, e, short(want), there)
	}
}

// checkFlat asks for the words of the chapter: a height of at most twice the least h for which 2^h is above the number of keys.
func checkFlat(t *testing.T, m *redblack.Map) {
	t.Helper()
	h := 0
	for 1<<h <= m.Len() {
		h++
	}
	if m.Height() < h || m.Height() > 2*h || !model.FlatFits(m.Len(), m.Height()) {
		t.Fatalf("%d keys, %d high", m.Len(), m.Height())
	}
}

// The chapter's examples.
func TestExamples(t *testing.T) {
	m := of(t, 1, []api.Pair{pair(num(1), str("a")), pair(num(2), str("b"))})
	if l := m.Pairs(); !sample.SamePairs(l, []api.Pair{pair(num(2), str("b")), pair(num(1), str("a"))}) {
		t.Errorf("Pairs: %v", l)
	}
	refused(t, api.ErrArg)(redblack.Rising(0, []api.Pair{pair(num(2), str("a")), pair(num(1), str("b"))}))
	if m := of(t, 0, model.Numbered(0, 1000, none())); m.Height() > 20 {
		t.Errorf("Height: %d", m.Height())
	}
}

// DOC.md's example 5; how many stand ahead of a key is how many come ahead of it.
func TestExampleOfTheWhole(t *testing.T) {
	for order := range api.MaxOrder + 1 {
		m := must(t)(redblack.New(order))
		for _, p := range sample.Shuffled(sample.New(1), model.Numbered(0, 1000, none())) {
			m = must(t)(m.Assoc(p.Key, p.Val))
		}
		if m.Len() != 1000 || m.Height() > 20 {
			t.Errorf("order %d: %d keys, %d high", order, m.Len(), m.Height())
		}
	}
	ahead := int64(0)
	for k := range of(t, 0, sample.Shuffled(sample.New(2), model.Numbered(0, 1000, none()))).All() {
		if k.Num != ahead {
			t.Fatalf("%d keys ahead of %d", ahead, k.Num)
		}
		ahead++
	}
}

// 14.1
func TestNew(t *testing.T) {
	for order := range api.MaxOrder + 1 {
		m := must(t)(redblack.New(order))
		check(t, m, order, nil)
		checkGet(t, m, num(1), none(), false)
	}
	for _, order := range sample.Beyond(api.MaxOrder) {
		refused(t, api.ErrKind)(redblack.New(order))
	}
}

// 14.1, 14.3, 14.7: each order by hand, whichever way the map was made.
func TestOrdersByHand(t *testing.T) {
	for order, line := range lines() {
		want := valued(line)
		s := sample.New(uint64(order))
		made := []*redblack.Map{must(t)(redblack.Rising(order, want)), of(t, order, want), of(t, order, reversed(want)), of(t, order, sample.Shuffled(s, want))}
		for other := range api.MaxOrder + 1 {
			made = append(made, must(t)(of(t, other, want).Turn(order)))
		}
		one := must(t)(redblack.New(order))
		for _, p := range sample.Shuffled(s, want) {
			one = must(t)(one.Assoc(p.Key, p.Val))
		}
		for _, m := range append(made, one) {
			if l := m.Pairs(); !sample.SamePairs(l, want) {
				t.Errorf("order %d: %s, want %s", order, short(l), short(want))
			}
			check(t, m, order, want)
		}
	}
}

// 14.1: a key has the value of the last pair that has it.
func TestOfKeepsTheLast(t *testing.T) {
	s := sample.New(1)
	for order := range api.MaxOrder + 1 {
		check(t, of(t, order, nil), order, nil)
		check(t, of(t, order, []api.Pair{}), order, nil)
		check(t, of(t, order, ints(1, 2)), order, ints(1, 2))
		check(t, of(t, order, ints(2, 5, 1, 6, 2, 7)), order, ints(1, 6, 2, 7))
		check(t, of(t, order, ints(3, 1, 3, 2, 3, 0)), order, ints(3, 0))
		check(t, of(t, order, ints(3, 1, 2, 2, 1, 3, 1, 4, 2, 5, 3, 6)), order, ints(3, 6, 2, 5, 1, 4))
		for range 40 {
			l := s.Pairs(s.Below(80), 2)
			check(t, of(t, order, l), order, model.PutAll(nil, l))
		}
	}
}

// 14.1: of all lengths; one pair out of its place, at each place; the same key twice, at each place.
func TestRising(t *testing.T) {
	for order, line := range lines() {
		check(t, must(t)(redblack.Rising(order, nil)), order, nil)
		check(t, must(t)(redblack.Rising(order, []api.Pair{})), order, nil)
		all := valued(line)
		for n := range len(all) + 1 {
			check(t, must(t)(redblack.Rising(order, all[:n])), order, all[:n])
			check(t, must(t)(redblack.Rising(order, all[n:])), order, all[n:])
		}
		for i := range all {
			twice := slices.Insert(slices.Clone(all), i, pair(all[i].Key, none()))
			refused(t, api.ErrArg)(redblack.Rising(order, twice))
			refused(t, api.ErrArg)(redblack.Rising(order, slices.Insert(slices.Clone(all), i, all[i])))
			refused(t, api.ErrArg)(redblack.Rising(order, slices.Concat(all, all[i:i+1])))
			if i > 0 {
				turned := slices.Clone(all)
				turned[i-1], turned[i] = turned[i], turned[i-1]
				refused(t, api.ErrArg)(redblack.Rising(order, turned))
			}
		}
		refused(t, api.ErrArg)(redblack.Rising(order, reversed(all)))
	}
	// What rises by one order does not by another one.
	check(t, must(t)(redblack.Rising(5, ints(0, 1, -1, 1, 1, 1))), 5, ints(0, 1, -1, 1, 1, 1))
	refused(t, api.ErrArg)(redblack.Rising(0, ints(0, 1, -1, 1, 1, 1)))
	refused(t, api.ErrArg)(redblack.Rising(1, ints(1, 1, 2, 1)))
}

// 14.1, 14.5: Rising and Of of all lengths.
func TestAllLengths(t *testing.T) {
	all := model.Numbered(0, 1100, none())
	for n := range len(all) + 1 {
		for _, m := range []*redblack.Map{must(t)(redblack.Rising(0, all[:n])), of(t, 1, all[:n])} {
			if m.Len() != n {
				t.Fatalf("%d keys, want %d", m.Len(), n)
			}
			checkFlat(t, m)
		}
	}
}

// version is a map and what it told when it was made.
type version struct {
	m     *redblack.Map
	plain []api.Pair
}

// changed is another version, by one of the map's own calls.
func (r version) changed(t *testing.T, s *sample.Source, keys []api.Value) version {
	t.Helper()
	k := keys[s.Below(len(keys))]
	switch s.Below(5) {
	case 0, 1:
		v := s.Value(2)
		return version{must(t)(r.m.Assoc(k, v)), model.Put(r.plain, k, v)}
	case 2:
		// The same value again: nothing else may come of it.
		if i := model.Find(r.plain, k); i >= 0 {
			return version{must(t)(r.m.Assoc(k, r.plain[i].Val)), r.plain}
		}
	}
	less := must(t)(r.m.Dissoc(k))
	checkGet(t, less, k, none(), false)
	return version{less, model.Drop(r.plain, k)}
}

// 14.2, 14.3, 14.6, P2, P3: keys come and go, of any older version, and every version tells for ever what it told.
func TestVersions(t *testing.T) {
	for order, line := range lines() {
		for seed := range uint64(4) {
			s := sample.New(seed)
			keys := slices.Concat(line, s.Keys(15))
			now := version{must(t)(redblack.New(order)), nil}
			versions := []version{now}
			for turn := range 150 {
				if turn%3 == 0 {
					now = versions[s.Below(len(versions))]
				}
				now = now.changed(t, s, keys)
				check(t, now.m, order, now.plain)
				versions = append(versions, now)
			}
			for _, v := range versions {
				check(t, v.m, order, v.plain)
			}
		}
	}
}

// 14.2, 14.5: one, two, three and more than a thousand keys, put in and taken out rising, falling and mixed.
func TestInAndOut(t *testing.T) {
	for order := range api.MaxOrder + 1 {
		for _, n := range []int{1, 2, 3, 1200} {
			rising := model.InOrder(order, valued(sample.Numbers(n)))
			ways := [][]api.Pair{rising, reversed(rising), sample.Shuffled(sample.New(uint64(n)), rising)}
			for _, in := range ways {
				m := must(t)(redblack.New(order))
				for i, p := range in {
					m = must(t)(m.Assoc(p.Key, p.Val))
					if m.Len() != i+1 {
						t.Fatalf("order %d: %d keys, want %d", order, m.Len(), i+1)
					}
					checkFlat(t, m)
				}
				check(t, m, order, rising)
				for _, out := range ways {
					checkOut(t, m, order, out)
				}
				check(t, m, order, rising)
			}
		}
	}
}

// checkOut takes a map's keys out one by one, down to none.
func checkOut(t *testing.T, m *redblack.Map, order int, out []api.Pair) {
	t.Helper()
	for i, p := range out {
		m = must(t)(m.Dissoc(p.Key))
		if left := len(out) - i - 1; m.Len() != left {
			t.Fatalf("order %d: %d keys, want %d", order, m.Len(), left)
		}
		checkFlat(t, m)
		checkGet(t, m, p.Key, none(), false)
		if i == len(out)/2 {
			check(t, m, order, out[i+1:])
		}
	}
	check(t, m, order, nil)
}

// 14.5: long chains of keys that come and go, with many there and with few.
func TestLongChains(t *testing.T) {
	for order := range api.MaxOrder + 1 {
		for _, most := range []int{5, 60, 1500} {
			s := sample.New(uint64(most))
			m := must(t)(redblack.New(order))
			there := make(map[int64]int64)
			for turn := range int64(6000) {
				k := int64(s.Below(most))
				// Phases in which more come than go, and the other way round.
				if s.Below(4) < 1+int(turn/1500)%2*2 {
					m = must(t)(m.Assoc(num(k), num(turn)))
					there[k] = turn
				} else {
					m = must(t)(m.Dissoc(num(k)))
					delete(there, k)
				}
				if m.Len() != len(there) {
					t.Fatalf("order %d: %d keys, want %d", order, m.Len(), len(there))
				}
				checkFlat(t, m)
			}
			var plain []api.Pair
			for k, v := range there {
				plain = append(plain, pair(num(k), num(v)))
			}
			check(t, m, order, plain)
		}
	}
}

// 14.2: a key that is not there is taken out.
func TestDissocOfNoKey(t *testing.T) {
	for order := range api.MaxOrder + 1 {
		plain := ints(1, 5, 2, 6, 3, 7)
		m := of(t, order, plain)
		for _, k := range []api.Value{num(4), num(0), none(), str("1"), list(num(1)), num(-1)} {
			checkGet(t, m, k, none(), false)
			check(t, must(t)(m.Dissoc(k)), order, plain)
			check(t, must(t)(must(t)(redblack.New(order)).Dissoc(k)), order, nil)
		}
		check(t, m, order, plain)
	}
}

// 14.2: the same key with the same and with another value.
func TestAssocAgain(t *testing.T) {
	for order := range api.MaxOrder + 1 {
		m := of(t, order, ints(1, 5, 2, 6))
		again := must(t)(m.Assoc(num(1), num(5)))
		other := must(t)(m.Assoc(num(1), num(9)))
		back := must(t)(other.Assoc(num(1), num(5)))
		empty := must(t)(m.Assoc(num(1), none()))
		check(t, again, order, ints(1, 5, 2, 6))
		check(t, other, order, ints(1, 9, 2, 6))
		check(t, back, order, ints(1, 5, 2, 6))
		check(t, empty, order, []api.Pair{pair(num(1), none()), pair(num(2), num(6))})
		check(t, m, order, ints(1, 5, 2, 6))
	}
}

// 14.7: the same keys and values by several ways tell the same pairs.
func TestPairsHangOnNothingElse(t *testing.T) {
	for order := range api.MaxOrder + 1 {
		s := sample.New(uint64(order))
		all := valued(s.Keys(80))
		kept, passing := all[:50], all[50:]
		want := of(t, order, kept).Pairs()
		for range 5 {
			m := must(t)(redblack.New(order))
			for _, p := range sample.Shuffled(s, all) {
				m = must(t)(m.Assoc(p.Key, s.Value(1)))
				m = must(t)(m.Assoc(p.Key, p.Val))
			}
			for _, p := range sample.Shuffled(s, passing) {
				m = must(t)(m.Dissoc(p.Key))
			}
			half := sample.Shuffled(s, kept)
			joined := must(t)(redblack.Union(of(t, order, half[:25]), of(t, s.Below(api.MaxOrder+1), half[25:])))
			turned := must(t)(of(t, s.Below(api.MaxOrder+1), sample.Shuffled(s, kept)).Turn(order))
			for _, other := range []*redblack.Map{m, joined, turned} {
				check(t, other, order, kept)
				if l := other.Pairs(); !sample.SamePairs(l, want) || !redblack.Equal(other, m) {
					t.Fatalf("order %d: %s, want %s", order, short(l), short(want))
				}
			}
		}
	}
}

// 14.3: an iterator is gone over again, left at each place, gone over within itself, and outlives what is made of its map.
func TestAll(t *testing.T) {
	for order := range api.MaxOrder + 1 {
		plain := valued(sample.New(3).Keys(30))
		m := of(t, order, plain)
		all, want := m.All(), model.InOrder(order, plain)
		for n := range len(want) + 1 {
			var got []api.Pair
			for k, v := range all {
				if len(got) == n {
					break
				}
				got = append(got, pair(k, v))
			}
			if !sample.SamePairs(got, want[:n]) {
				t.Fatalf("order %d: left at %d: %s", order, n, short(got))
			}
		}
		outer := 0
		for k := range all {
			inner := 0
			for range all {
				inner++
			}
			must(t)(m.Dissoc(k))
			must(t)(m.Assoc(k, none()))
			if !sample.Same(k, want[outer].Key) || inner != len(want) {
				t.Fatalf("order %d: %d within %d", order, inner, outer)
			}
			outer++
		}
		if outer != len(want) {
			t.Errorf("order %d: gone over %d", order, outer)
		}
		for range must(t)(redblack.New(order)).All() {
			t.Errorf("order %d: a pair of none", order)
		}
	}
}

// 14.3: what leaves early is not asked again.
func TestAllStops(t *testing.T) {
	for order := range api.MaxOrder + 1 {
		m := of(t, order, valued(sample.New(4).Keys(20)))
		for n := 1; n <= 20; n++ {
			asked := 0
			m.All()(func(k, v api.Value) bool {
				asked++
				return asked < n
			})
			if asked != n {
				t.Errorf("order %d: asked %d times, want %d", order, asked, n)
			}
		}
	}
}

// 14.3: red-black trees of so few keys have one height alone, whatever their shape.
func TestHeight(t *testing.T) {
	for order := range api.MaxOrder + 1 {
		for seed := range uint64(20) {
			keys := sample.Shuffled(sample.New(seed), sample.Numbers(5))
			m := must(t)(redblack.New(order))
			for n, want := range []int{0, 1, 2, 2, 3, 3} {
				if grown := of(t, order, valued(keys[:n])); m.Height() != want || grown.Height() != want {
					t.Errorf("order %d: %d keys, %d and %d high, want %d", order, n, m.Height(), grown.Height(), want)
				}
				if n < len(keys) {
					m = must(t)(m.Assoc(keys[n], none()))
				}
			}
		}
	}
}

// 14.3: Value has value.Map's error.
func TestValueTooLong(t *testing.T) {
	for _, c := range []struct {
		pairs []api.Pair
		want  api.Errno
	}{
		{nil, api.OK}, {model.Numbered(0, api.MaxParts/2-1, none()), api.OK}, {model.Numbered(0, api.MaxParts/2, none()), api.ErrLong}, {model.Numbered(0, 3000, none()), api.ErrLong},
		{[]api.Pair{pair(sample.Nested(api.MaxDeep-1, num(1)), none())}, api.OK}, {[]api.Pair{pair(sample.Nested(api.MaxDeep, num(1)), none())}, api.ErrLong},
		{[]api.Pair{pair(none(), sample.Nested(api.MaxDeep-1, num(1)))}, api.OK}, {[]api.Pair{pair(none(), sample.Nested(api.MaxDeep, num(1)))}, api.ErrLong},
	} {
		for order := range api.MaxOrder + 1 {
			m := of(t, order, c.pairs)
			if v, e := m.Value(); e != c.want || e != api.OK && !sample.Same(v, none()) || e == api.OK && v.Kind != api.VMap {
				t.Errorf("order %d: Value of %s: %s, %v, want %v", order, short(c.pairs), short(v), e, c.want)
			}
		}
	}
}

// P5: a map's Value is one, and has one hash, whatever it is kept in and however it was made.
func TestOneHash(t *testing.T) {
	s := sample.New(5)
	for range 60 {
		l := s.Pairs(s.Below(30), 2)
		want, _ := value.Map(l)
		full, _ := hash.Full(want)
		same := func(v api.Value, e api.Errno) {
			t.Helper()
			if h, wrong := hash.Full(v); e != api.OK || wrong != api.OK || h != full || !sample.Same(v, want) {
				t.Fatalf("%s: %d, %v, want %s: %d", short(v), h, e, short(want), full)
			}
		}
		hashed, _ := champ.Of(s.Below(api.MaxHash+1), l)
		same(hashed.Value())
		for order := range api.MaxOrder + 1 {
			m := must(t)(redblack.New(order))
			for _, p := range sample.Shuffled(s, model.PutAll(nil, l)) {
				m = must(t)(m.Assoc(p.Key, p.Val))
			}
			same(of(t, order, l).Value())
			same(m.Value())
		}
	}
	// The hash of {1 a, 2 b} in every order.
	plain, _ := hash.Full(dict(num(1), str("a"), num(2), str("b")))
	for order := range api.MaxOrder + 1 {
		v, _ := of(t, order, []api.Pair{pair(num(2), str("b")), pair(num(1), str("a"))}).Value()
		if h, _ := hash.Full(v); h != plain {
			t.Errorf("order %d: %d, want %d", order, h, plain)
		}
	}
}
