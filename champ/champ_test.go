package champ_test

import (
	"fmt"
	"slices"
	"strings"
	"testing"
	"unsafe"

	"spinney/api"
	"spinney/champ"
	"spinney/hash"
	"spinney/model"
	"spinney/sample"
	"spinney/value"
)

func none() api.Value                   { return api.Value{} }
func num(n int64) api.Value             { return sample.Num(n) }
func str(s string) api.Value            { return sample.Str(s) }
func list(items ...api.Value) api.Value { return sample.List(items...) }
func pair(k, v api.Value) api.Pair      { return api.Pair{Key: k, Val: v} }
func ints(l ...int64) []api.Pair        { return model.Ints(l...) }

// valued are keys with values that differ from key to key.
func valued(keys []api.Value) []api.Pair {
	var out []api.Pair
	for i, k := range keys {
		out = append(out, pair(k, list(num(int64(i)), k)))
	}
	return out
}

// short is what a failing test shows of something that may be long.
func short(x any) string {
	s := fmt.Sprint(x)
	return s[:min(len(s), 200)]
}

// must is a map that came without an error.
func must(t *testing.T) func(*champ.Map, api.Errno) *champ.Map {
	return func(m *champ.Map, e api.Errno) *champ.Map {
		t.Helper()
		if m == nil || e != api.OK {
			t.Fatalf("no map: %v", e)
		}
		return m
	}
}

// check asks a map everything, against a plain list of pairs with unlike keys.
func check(t *testing.T, m *champ.Map, kind int, plain []api.Pair) {
	t.Helper()
	if wrong := model.WrongOfMap(m, kind, plain); wrong != "" {
		t.Fatalf("%s is wrong: %s of kind %d, want %s of kind %d", wrong, short(m.Pairs()), m.Kind(), short(plain), kind)
	}
}

func checkGet(t *testing.T, m *champ.Map, k, want api.Value, there bool) {
	t.Helper()
	if v, ok, e := m.Get(k); !sample.Same(v, want) || ok != there || e != api.OK {
		t.Fatalf("Get(%s): %s, %v, %v, want %s, %v", short(k), short(v), ok, e, short(want), there)
	}
}

// chain is the shape of a map whose keys agree down to a depth at which they stand in one node.
func chain(place uint32, last api.Shape) []api.Shape {
	var out []api.Shape
	for depth := range last.Depth {
		out = append(out, api.Shape{Depth: depth, Nodes: place})
	}
	return append(out, last)
}

// The chapter's example, and example 3 of the whole.
func TestExamples(t *testing.T) {
	m := must(t)(champ.Of(32, ints(1, 10, 2, 20)))
	if l, want := m.Shape(), chain(1, api.Shape{Depth: 7, Members: 2}); len(l) != 8 || !slices.Equal(l, want) {
		t.Errorf("Shape: %v, want %v", l, want)
	}
	for _, k := range []int64{1, 2} {
		one := must(t)(m.Dissoc(num(k)))
		if l := one.Shape(); !slices.Equal(l, []api.Shape{{Data: 1, Members: 1}}) {
			t.Errorf("Shape without %d: %v", k, l)
		}
	}
}

// 7.3: shapes and orders worked out by hand. The hash of 1 is 1392991556 (groups 4, 10, 23, 14, 16, 9, 1), of 2 it is 3323962100 (20, 23, 8, 31, 1, 3, 3); those of 0, nil and the empty text are 0.
func TestShapesByHand(t *testing.T) {
	zeros := []api.Pair{pair(none(), num(1)), pair(num(0), num(2)), pair(str(""), num(3))}
	for _, c := range []struct {
		kind  int
		pairs []api.Pair
		shape []api.Shape
	}{
		{0, nil, []api.Shape{{}}},
		{32, nil, []api.Shape{{}}},
		{63, nil, []api.Shape{{}}},
		{0, ints(1, 5), []api.Shape{{Data: 1 << 4, Members: 1}}},
		{0, ints(0, 3, 1, 5, 2, 6), []api.Shape{{Data: 1<<20 | 1<<4 | 1, Members: 3}}},
		{0, zeros, chain(1, api.Shape{Depth: 7, Members: 3})},
		{0, append(slices.Clone(zeros), ints(1, 5)...), append([]api.Shape{{Data: 1 << 4, Nodes: 1, Members: 1}}, chain(1, api.Shape{Depth: 7, Members: 3})[1:]...)},
		{3, ints(1, 5, 2, 6), append([]api.Shape{{Nodes: 1 << 4}}, chain(1, api.Shape{Depth: 7, Members: 2})[1:]...)},
		{5, ints(1, 5, 2, 6), []api.Shape{{Data: 1<<20 | 1<<4, Members: 2}}},
		{34, ints(1, 5, 2, 6), chain(1, api.Shape{Depth: 6, Data: 1<<3 | 1<<1, Members: 2})},
		{39, ints(1, 5, 2, 6), chain(1, api.Shape{Depth: 5, Data: 1<<3 | 1<<9, Members: 2})},
		{39, ints(2, 6, 1, 5), chain(1, api.Shape{Depth: 5, Data: 1<<3 | 1<<9, Members: 2})},
	} {
		m := must(t)(champ.Of(c.kind, c.pairs))
		if l := m.Shape(); !slices.Equal(l, c.shape) {
			t.Errorf("kind %d: Shape of %v: %v, want %v", c.kind, c.pairs, l, c.shape)
		}
	}
	// Under kind 39 the group that first tells them apart has 3 of 2, 9 of 1.
	if l := must(t)(champ.Of(39, ints(1, 5, 2, 6))).Pairs(); !sample.SamePairs(l, ints(2, 6, 1, 5)) {
		t.Errorf("kind 39: %v", l)
	}
	if l := must(t)(champ.Of(0, append(ints(2, 6, 1, 5), zeros...))).Pairs(); !sample.SamePairs(l, slices.Concat(zeros, ints(1, 5, 2, 6))) {
		t.Errorf("kind 0: %v", l)
	}
}

// 7.1
func TestNew(t *testing.T) {
	for kind := range api.MaxHash + 1 {
		m := must(t)(champ.New(kind))
		check(t, m, kind, nil)
		checkGet(t, m, num(1), none(), false)
	}
	for _, kind := range sample.Beyond(api.MaxHash) {
		if m, e := champ.New(kind); m != nil || e != api.ErrKind {
			t.Errorf("New(%d): %v, %v", kind, m, e)
		}
	}
}

// 7.1: a key has the value of the last pair that has it.
func TestOfKeepsTheLast(t *testing.T) {
	s := sample.New(1)
	for kind := range api.MaxHash + 1 {
		check(t, must(t)(champ.Of(kind, nil)), kind, nil)
		check(t, must(t)(champ.Of(kind, []api.Pair{})), kind, nil)
		check(t, must(t)(champ.Of(kind, ints(2, 5, 1, 6, 2, 7))), kind, ints(1, 6, 2, 7))
		check(t, must(t)(champ.Of(kind, ints(3, 1, 3, 2, 3, 0))), kind, ints(3, 0))
		for range 5 {
			l := s.Pairs(s.Below(80), 2)
			check(t, must(t)(champ.Of(kind, l)), kind, model.PutAll(nil, l))
		}
	}
}

// step is one change, of a map and of a plain list; all that is told is asked behind it.
func step(t *testing.T, s *sample.Source, kind int, m *champ.Map, plain []api.Pair, keys []api.Value) (*champ.Map, []api.Pair) {
	t.Helper()
	k := keys[s.Below(len(keys))]
	switch s.Below(5) {
	case 0, 1:
		v := s.Value(2)
		m, plain = must(t)(m.Assoc(k, v)), model.Put(plain, k, v)
	case 2:
		// The same value again: nothing else may come of it.
		if i := model.Find(plain, k); i >= 0 {
			m = must(t)(m.Assoc(k, plain[i].Val))
		}
	default:
		m, plain = must(t)(m.Dissoc(k)), model.Drop(plain, k)
		checkGet(t, m, k, none(), false)
	}
	check(t, m, kind, plain)
	return m, plain
}

// 7.2, 7.3, 7.5, P3: keys come and go, and every version tells for ever what it told.
func TestStepsOfAllKinds(t *testing.T) {
	type version struct {
		m     *champ.Map
		plain []api.Pair
	}
	for kind := range api.MaxHash + 1 {
		s := sample.New(uint64(kind))
		keys := append(s.Keys(12), num(0), none(), str(""), num(1), num(2))
		m := must(t)(champ.New(kind))
		var plain []api.Pair
		versions := []version{{m, nil}}
		for range 60 {
			m, plain = step(t, s, kind, m, plain, keys)
			versions = append(versions, version{m, plain})
		}
		for _, v := range versions {
			check(t, v.m, kind, v.plain)
		}
		// And what is made of an old version changes none of the others.
		for _, v := range versions[:20] {
			step(t, s, kind, v.m, v.plain, keys)
			check(t, v.m, kind, v.plain)
		}
		check(t, m, kind, plain)
	}
}

// 7.2: a key that is not there is taken out.
func TestDissocOfNoKey(t *testing.T) {
	for kind := range api.MaxHash + 1 {
		plain := ints(1, 5, 2, 6, 3, 7)
		m := must(t)(champ.Of(kind, plain))
		for _, k := range []api.Value{num(4), none(), str("1"), list(num(1)), num(-1)} {
			check(t, must(t)(m.Dissoc(k)), kind, plain)
			check(t, must(t)(must(t)(champ.New(kind)).Dissoc(k)), kind, nil)
		}
		check(t, m, kind, plain)
	}
}

// 7.2: the same key with the same and with another value.
func TestAssocAgain(t *testing.T) {
	for kind := range api.MaxHash + 1 {
		m := must(t)(champ.Of(kind, ints(1, 5, 2, 6)))
		again := must(t)(m.Assoc(num(1), num(5)))
		other := must(t)(m.Assoc(num(1), num(9)))
		back := must(t)(other.Assoc(num(1), num(5)))
		empty := must(t)(m.Assoc(num(1), none()))
		check(t, again, kind, ints(1, 5, 2, 6))
		check(t, other, kind, ints(1, 9, 2, 6))
		check(t, back, kind, ints(1, 5, 2, 6))
		check(t, empty, kind, []api.Pair{pair(num(1), none()), pair(num(2), num(6))})
		check(t, m, kind, ints(1, 5, 2, 6))
	}
}

// twoAt are two keys that under a kind of hash agree in all groups ahead of a depth, and not in that one (at 7 in all of them); with the kind.
func twoAt(t *testing.T, depth int) (int, api.Value, api.Value) {
	t.Helper()
	if depth == 7 {
		return 32, num(1), num(2)
	}
	// This kind keeps the bits from that group on, and no others.
	kind := 64 - 5*depth
	if depth == 0 {
		kind = 0
	}
	a, b := num(1), num(2)
	x, _ := hash.Of(kind, a)
	y, _ := hash.Of(kind, b)
	for i := range depth + 1 {
		g, _ := hash.Group(x, i)
		h, _ := hash.Group(y, i)
		if (g == h) != (i < depth) {
			t.Fatalf("depth %d: groups %d: %d, %d", depth, i, g, h)
		}
	}
	return kind, a, b
}

// 7.4: of two keys in one node one is taken out, at every depth; alone, and beside a third one at a place of the node above.
func TestOneOfTwoAtEveryDepth(t *testing.T) {
	for depth := range 8 {
		kind, a, b := twoAt(t, depth)
		both := []api.Pair{pair(a, num(10)), pair(b, num(20))}
		m := must(t)(champ.Of(kind, both))
		check(t, m, kind, both)
		if l := m.Shape(); len(l) != depth+1 || l[depth].Members != 2 || l[depth].Depth != depth {
			t.Errorf("depth %d: %v", depth, l)
		}
		for i, p := range both {
			rest := must(t)(m.Dissoc(p.Key))
			check(t, rest, kind, both[1-i:2-i])
			if l := rest.Shape(); len(l) != 1 || l[0].Members != 1 {
				t.Errorf("depth %d without %v: %v", depth, p.Key, l)
			}
			check(t, must(t)(rest.Dissoc(both[1-i].Key)), kind, nil)
			check(t, must(t)(rest.Assoc(p.Key, p.Val)), kind, both)
		}
		for _, third := range sample.New(uint64(depth)).Keys(60) {
			if sample.Same(third, a) || sample.Same(third, b) {
				continue
			}
			three := append(slices.Clone(both), pair(third, num(30)))
			m := must(t)(champ.Of(kind, three))
			for _, p := range three {
				check(t, must(t)(m.Dissoc(p.Key)), kind, model.Drop(three, p.Key))
			}
		}
	}
}

// 7.4, P4: the same keys and values by several ways.
func TestOneForm(t *testing.T) {
	for kind := range api.MaxHash + 1 {
		s := sample.New(uint64(kind))
		all := valued(s.Keys(60))
		kept, passing := all[:40], all[40:]
		check(t, must(t)(champ.Of(kind, kept)), kind, kept)
		for range 4 {
			check(t, must(t)(champ.Of(kind, sample.Shuffled(s, kept))), kind, kept)
			m := must(t)(champ.New(kind))
			for _, p := range sample.Shuffled(s, all) {
				m = must(t)(m.Assoc(p.Key, s.Value(1)))
				m = must(t)(m.Assoc(p.Key, p.Val))
			}
			for _, p := range sample.Shuffled(s, passing) {
				m = must(t)(m.Dissoc(p.Key))
			}
			check(t, m, kind, kept)
			m = must(t)(champ.Of(kind, sample.Shuffled(s, all)))
			for _, p := range sample.Shuffled(s, all) {
				m = must(t)(m.Dissoc(p.Key))
			}
			check(t, m, kind, nil)
		}
	}
}

// 7.3: an iterator is gone over again, left at each place, gone over within itself, and outlives what is made of its map.
func TestAll(t *testing.T) {
	for _, kind := range []int{0, 1, 5, 31, 32, 33, 34, 59, 63} {
		plain := valued(sample.New(3).Keys(30))
		m := must(t)(champ.Of(kind, plain))
		all, want := m.All(), model.InTrieOrder(kind, plain)
		for n := range len(want) + 1 {
			var got []api.Pair
			for k, v := range all {
				if len(got) == n {
					break
				}
				got = append(got, pair(k, v))
			}
			if !sample.SamePairs(got, want[:n]) {
				t.Fatalf("kind %d: left at %d: %s", kind, n, short(got))
			}
		}
		outer := 0
		for k := range all {
			inner := 0
			for range all {
				inner++
			}
			m.Dissoc(k)
			if !sample.Same(k, want[outer].Key) || inner != len(want) {
				t.Fatalf("kind %d: %d within %d", kind, inner, outer)
			}
			outer++
		}
		if outer != len(want) {
			t.Errorf("kind %d: gone over %d", kind, outer)
		}
	}
}

// 7.3: what leaves early is not asked again.
func TestAllStops(t *testing.T) {
	for _, kind := range []int{0, 5, 32, 34} {
		m := must(t)(champ.Of(kind, valued(sample.New(4).Keys(20))))
		for n := 1; n <= 20; n++ {
			asked := 0
			m.All()(func(k, v api.Value) bool {
				asked++
				return asked < n
			})
			if asked != n {
				t.Errorf("kind %d: asked %d times, want %d", kind, asked, n)
			}
		}
	}
}

// 7.3: Value has value.Map's error.
func TestValueTooLong(t *testing.T) {
	fits := func(n int) []api.Pair { return valuedByNil(sample.Numbers(n)) }
	for _, c := range []struct {
		pairs []api.Pair
		want  api.Errno
	}{
		{fits(api.MaxParts/2 - 1), api.OK}, {fits(api.MaxParts / 2), api.ErrLong}, {fits(3000), api.ErrLong},
		{[]api.Pair{pair(sample.Nested(api.MaxDeep-1, num(1)), none())}, api.OK}, {[]api.Pair{pair(sample.Nested(api.MaxDeep, num(1)), none())}, api.ErrLong},
		{[]api.Pair{pair(none(), sample.Nested(api.MaxDeep-1, num(1)))}, api.OK}, {[]api.Pair{pair(none(), sample.Nested(api.MaxDeep, num(1)))}, api.ErrLong},
	} {
		m := must(t)(champ.Of(0, c.pairs))
		if v, e := m.Value(); e != c.want || e != api.OK && !sample.Same(v, none()) || e == api.OK && v.Kind != api.VMap {
			t.Errorf("Value of %s: %s, %v, want %v", short(c.pairs), short(v), e, c.want)
		}
	}
}

func valuedByNil(keys []api.Value) []api.Pair {
	var out []api.Pair
	for _, k := range keys {
		out = append(out, pair(k, none()))
	}
	return out
}

// 7.1, 7.2: MaxLen keys, and one more.
func TestMaxLen(t *testing.T) {
	for _, kind := range []int{0, 1, 8, 32, 33, 50} {
		plain := valuedByNil(sample.Numbers(api.MaxLen))
		full := must(t)(champ.Of(kind, plain))
		check(t, full, kind, plain)
		if m, e := full.Assoc(num(-1), none()); m != nil || e != api.ErrLong {
			t.Errorf("kind %d: one more: %v", kind, e)
		}
		again := must(t)(full.Assoc(num(7), num(8)))
		checkGet(t, again, num(7), num(8), true)
		checkGet(t, full, num(7), none(), true)
		fewer := must(t)(again.Dissoc(num(7)))
		other := must(t)(fewer.Assoc(num(-1), num(9)))
		checkGet(t, other, num(-1), num(9), true)
		if again.Len() != api.MaxLen || fewer.Len() != api.MaxLen-1 || other.Len() != api.MaxLen {
			t.Errorf("kind %d: %d, %d, %d keys", kind, again.Len(), fewer.Len(), other.Len())
		}
		if m, e := other.Assoc(num(7), none()); m != nil || e != api.ErrLong {
			t.Errorf("kind %d: one more again: %v", kind, e)
		}
		check(t, full, kind, plain)
	}
}

// 7.1: pairs of one key are many pairs all the same.
func TestOfMaxLenPairs(t *testing.T) {
	many := slices.Repeat(ints(1, 2, 3, 4), api.MaxLen/2)
	check(t, must(t)(champ.Of(0, many)), 0, ints(1, 2, 3, 4))
	if m, e := champ.Of(0, append(many, ints(1, 2)...)); m != nil || e != api.ErrLong {
		t.Errorf("MaxLen + 1 pairs: %v", e)
	}
}

// 7.2, 7.4: many keys of one hash come one by one, and go, from both ends and from within.
func TestManyOfOneHash(t *testing.T) {
	const n = 1500
	for _, kind := range []int{32, 1} {
		for seed := range uint64(3) {
			keys := sample.Numbers(n)
			switch seed {
			case 1:
				slices.Reverse(keys)
			case 2:
				keys = sample.Shuffled(sample.New(seed), keys)
			}
			m := must(t)(champ.New(kind))
			for _, k := range keys {
				m = must(t)(m.Assoc(k, none()))
			}
			full := valuedByNil(keys)
			check(t, m, kind, full)
			less := m
			for _, k := range keys[:n-100] {
				less = must(t)(less.Dissoc(k))
				checkGet(t, less, k, none(), false)
			}
			check(t, less, kind, valuedByNil(keys[n-100:]))
			for _, k := range keys[:n-100] {
				less = must(t)(less.Assoc(k, none()))
			}
			check(t, less, kind, full)
			check(t, m, kind, full)
		}
	}
}

// R6: a nil map is an empty one of kind 0, and so is a zero one; what is made of it is not nil.
func TestNilMaps(t *testing.T) {
	for _, m := range []*champ.Map{nil, {}} {
		check(t, m, 0, nil)
		checkGet(t, m, num(1), none(), false)
		check(t, must(t)(m.Assoc(num(1), num(2))), 0, ints(1, 2))
		check(t, must(t)(m.Dissoc(num(1))), 0, nil)
		for _, w := range sample.Wrongs() {
			checkMapErrors(t, m, w)
		}
		check(t, m, 0, nil)
	}
}

// checkMapErrors asks for what a map answers to a value that is not right.
func checkMapErrors(t *testing.T, m *champ.Map, w api.Value) {
	t.Helper()
	if v, ok, e := m.Get(w); !sample.Same(v, none()) || ok || e != api.ErrValue {
		t.Errorf("Get(%s): %v, %v, %v", short(w), v, ok, e)
	}
	for _, p := range []api.Pair{pair(w, num(1)), pair(num(1), w), pair(w, w)} {
		if n, e := m.Assoc(p.Key, p.Val); n != nil || e != api.ErrValue {
			t.Errorf("Assoc(%s): %v", short(p), e)
		}
	}
	if n, e := m.Dissoc(w); n != nil || e != api.ErrValue {
		t.Errorf("Dissoc(%s): %v", short(w), e)
	}
}

// R1, R4: values that are not right; also of a full map, where they come ahead of ErrLong.
func TestWrongValues(t *testing.T) {
	full := must(t)(champ.Of(5, valuedByNil(sample.Numbers(api.MaxLen))))
	for _, w := range sample.Wrongs() {
		for _, kind := range []int{0, 5, 32, 63} {
			m := must(t)(champ.Of(kind, ints(1, 5, 2, 6)))
			checkMapErrors(t, m, w)
			check(t, m, kind, ints(1, 5, 2, 6))
			for _, l := range [][]api.Pair{{pair(w, none())}, {pair(none(), w)}, append(ints(1, 2), pair(w, w)), append(ints(1, 2), pair(num(3), w))} {
				if m, e := champ.Of(kind, l); m != nil || e != api.ErrValue {
					t.Errorf("Of(%d, %s): %v", kind, short(l), e)
				}
			}
		}
		checkMapErrors(t, full, w)
		if m, e := full.Assoc(num(-1), w); m != nil || e != api.ErrValue {
			t.Errorf("Assoc to a full map: %v", e)
		}
	}
}

// R1: the kind ahead of the list, its length ahead of its members.
func TestWhichErrorComesFirst(t *testing.T) {
	long := slices.Repeat(ints(1, 2), api.MaxLen+1)
	wrong := []api.Pair{pair(sample.Bool(2), none())}
	for _, kind := range sample.Beyond(api.MaxHash) {
		for _, l := range [][]api.Pair{nil, {}, ints(1, 2), wrong, long} {
			if m, e := champ.Of(kind, l); m != nil || e != api.ErrKind {
				t.Errorf("Of(%d, %s): %v", kind, short(l), e)
			}
		}
	}
	for _, l := range [][]api.Pair{long, append(wrong, long...), append(slices.Clone(long[1:]), wrong...)} {
		if m, e := champ.Of(0, l); m != nil || e != api.ErrLong {
			t.Errorf("Of(0, %s): %v", short(l), e)
		}
	}
	if m, e := champ.Of(0, append(slices.Clone(long[2:]), wrong...)); m != nil || e != api.ErrValue {
		t.Errorf("MaxLen pairs, the last one wrong: %v", e)
	}
}

// R3: what is handed in stays as it is, and is not kept.
func TestArgumentsStay(t *testing.T) {
	for _, kind := range []int{0, 3, 32, 40} {
		l := sample.RoomyPairs(model.Nested())
		m := must(t)(champ.Of(kind, l))
		n := must(t)(champ.New(kind))
		for _, p := range l {
			n = must(t)(n.Assoc(p.Key, p.Val))
			n = must(t)(n.Assoc(p.Key, p.Val))
		}
		less := must(t)(n.Dissoc(l[0].Key))
		m.Get(l[0].Key)
		if !sample.SamePairs(l, model.Nested()) || !sample.PairRoomKept(l) {
			t.Errorf("kind %d: changed: %v", kind, l)
		}
		sample.SpoilPairs(l)
		check(t, m, kind, model.Nested())
		check(t, n, kind, model.Nested())
		check(t, less, kind, model.Nested()[1:])
	}
}

// R3: writing over an answer changes nothing that is told, of that map or of another version.
func TestAnswersAreNew(t *testing.T) {
	for _, kind := range []int{0, 3, 32, 40} {
		m := must(t)(champ.Of(kind, model.Nested()))
		other := must(t)(m.Assoc(num(1), num(2)))
		spoil := func(told *champ.Map) {
			sample.SpoilPairs(told.Pairs())
			for k, v := range told.All() {
				sample.Spoil(k.Items)
				sample.Spoil(v.Items)
			}
			for _, p := range model.Nested() {
				v, _, _ := told.Get(p.Key)
				sample.Spoil(v.Items)
			}
			v, _ := told.Value()
			sample.Spoil(v.Items)
			shape := told.Shape()
			clear(shape[:cap(shape)])
		}
		first, again := m.Pairs(), m.Pairs()
		v, _ := m.Value()
		spoil(m)
		spoil(other)
		sample.SpoilPairs(again)
		check(t, m, kind, model.Nested())
		check(t, other, kind, append(model.Nested(), ints(1, 2)...))
		if want, _ := value.Map(model.Nested()); !sample.SamePairs(first, model.InTrieOrder(kind, model.Nested())) || !sample.Same(v, want) {
			t.Errorf("kind %d: answers share memory: %v, %v", kind, first, v)
		}
	}
}

// R3: lists that share memory when they are handed in share none in one answer.
func TestListsOfOneAnswer(t *testing.T) {
	part := list(num(1), list(num(2)))
	m := must(t)(champ.Of(0, []api.Pair{pair(part, part), pair(list(part), part)}))
	l := m.Pairs()
	sample.Spoil(l[0].Key.Items)
	sample.Spoil(l[0].Val.Items)
	if want := model.InTrieOrder(0, []api.Pair{pair(part, part), pair(list(part), part)})[1:]; !sample.SamePairs(l[1:], want) {
		t.Errorf("Pairs: %v, want %v", l[1:], want)
	}
}

// R3
func TestTextsAreNew(t *testing.T) {
	long := strings.Repeat("a", api.MaxText)
	m := must(t)(champ.Of(0, []api.Pair{pair(str(long), str(long))}))
	n := must(t)(must(t)(champ.New(0)).Assoc(str(long), str(long)))
	seen := []*byte{unsafe.StringData(long)}
	look := func(v api.Value) {
		at := unsafe.StringData(v.Text)
		if v.Text != long || slices.Contains(seen, at) {
			t.Errorf("the text is not new memory: %q", v.Text)
		}
		seen = append(seen, at)
	}
	for _, told := range []*champ.Map{m, n} {
		for range 2 {
			p := told.Pairs()[0]
			look(p.Key)
			look(p.Val)
			v, _, _ := told.Get(str(long))
			look(v)
			whole, _ := told.Value()
			look(whole.Items[0])
			look(whole.Items[1])
			for k, v := range told.All() {
				look(k)
				look(v)
			}
		}
	}
}

// R2: of keys that differ in nil and empty lists alone there is one.
func TestNilAndEmptyLists(t *testing.T) {
	for _, v := range []api.Value{{Kind: api.VList}, {Kind: api.VSet}, {Kind: api.VMap}, {}, num(3), str("a")} {
		w := v
		w.Items = []api.Value{}
		for _, kind := range []int{0, 32} {
			m := must(t)(champ.Of(kind, []api.Pair{pair(v, num(1)), pair(w, num(2))}))
			check(t, m, kind, []api.Pair{pair(v, num(2))})
			check(t, must(t)(m.Assoc(v, w)), kind, []api.Pair{pair(w, v)})
			check(t, must(t)(m.Dissoc(w)), kind, nil)
		}
	}
}
