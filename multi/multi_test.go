package multi_test

import (
	"fmt"
	"slices"
	"testing"

	"spinney/api"
	"spinney/champ"
	"spinney/hash"
	"spinney/hset"
	"spinney/model"
	"spinney/multi"
	"spinney/sample"
	"spinney/value"
)

func none() api.Value                   { return api.Value{} }
func num(n int64) api.Value             { return sample.Num(n) }
func str(s string) api.Value            { return sample.Str(s) }
func list(items ...api.Value) api.Value { return sample.List(items...) }
func pair(k, v api.Value) api.Pair      { return api.Pair{Key: k, Val: v} }
func ints(l ...int64) []api.Pair        { return model.Ints(l...) }

// short is what a failing test shows of something that may be long.
func short(x any) string {
	s := fmt.Sprint(x)
	return s[:min(len(s), 200)]
}

// must is a multimap that came without an error.
func must(t *testing.T) func(*multi.Map, api.Errno) *multi.Map {
	return func(m *multi.Map, e api.Errno) *multi.Map {
		t.Helper()
		if m == nil || e != api.OK {
			t.Fatalf("no multimap: %v", e)
		}
		return m
	}
}

// of is a multimap of pairs.
func of(t *testing.T, kind int, l []api.Pair) *multi.Map {
	t.Helper()
	return must(t)(multi.Of(kind, l))
}

// put is a multimap of pairs that came one by one.
func put(t *testing.T, kind int, l []api.Pair) *multi.Map {
	t.Helper()
	m := must(t)(multi.New(kind))
	for _, p := range l {
		m = must(t)(m.Put(p.Key, p.Val))
	}
	return m
}

// refused is for what must have been no multimap, but an error.
func refused(t *testing.T, want api.Errno) func(*multi.Map, api.Errno) {
	return func(m *multi.Map, e api.Errno) {
		t.Helper()
		if m != nil || e != want {
			t.Fatalf("%v, want %v", e, want)
		}
	}
}

// check asks a multimap everything, against a plain list of unlike pairs.
func check(t *testing.T, m *multi.Map, kind int, plain []api.Pair) {
	t.Helper()
	if wrong := model.WrongOfMulti(m, kind, plain); m == nil || wrong != "" {
		t.Fatalf("%s is wrong: %s of kind %d, want %s of kind %d", wrong, short(m.Pairs()), m.Kind(), short(plain), kind)
	}
}

func checkHas(t *testing.T, m *multi.Map, k, v api.Value, want bool) {
	t.Helper()
	if there, e := m.Has(k, v); there != want || e != api.OK {
		t.Fatalf("Has(%s, %s): %v, %v, want %v", short(k), short(v), there, e, want)
	}
}

// checkGet asks for the set of a key.
func checkGet(t *testing.T, m *multi.Map, k api.Value, want ...api.Value) {
	t.Helper()
	s, e := m.Get(k)
	if s == nil || e != api.OK {
		t.Fatalf("Get(%s): %v", short(k), e)
	}
	if wrong := model.WrongOfSet(s, m.Kind(), want); wrong != "" {
		t.Fatalf("Get(%s): %s is wrong: %s of kind %d, want %s of kind %d", short(k), wrong, short(s.Items()), s.Kind(), short(want), m.Kind())
	}
}

// checkPairs asks for pairs in an order that was worked out by hand.
func checkPairs(t *testing.T, m *multi.Map, want []api.Pair) {
	t.Helper()
	if l := m.Pairs(); !sample.SamePairs(l, want) || m.Len() != len(want) {
		t.Fatalf("Pairs: %s, want %s", short(l), short(want))
	}
}

// The chapter's example.
func TestExamples(t *testing.T) {
	a, b := str("a"), str("b")
	m := of(t, 0, []api.Pair{pair(num(1), a), pair(num(1), b), pair(num(1), a)})
	if m.Len() != 2 || !sample.SameAll(m.Keys(), []api.Value{num(1)}) {
		t.Errorf("%d pairs, keys %v", m.Len(), m.Keys())
	}
	less := must(t)(m.Drop(num(1), a))
	check(t, less, 0, []api.Pair{pair(num(1), b)})
	less = must(t)(less.Drop(num(1), b))
	if less.Len() != 0 || len(less.Keys()) != 0 {
		t.Errorf("%d pairs, keys %v", less.Len(), less.Keys())
	}
	check(t, m.Turn(), 0, []api.Pair{pair(a, num(1)), pair(b, num(1))})
}

// 20.1: pairs and keys by hand. Kind 32 has natural order; under kind 39 the hash of 2 comes ahead of that of 1; the full hashes of 0, 1, 2 rise by their lowest five bits.
func TestPairsByHand(t *testing.T) {
	l := ints(2, 1, 1, 2, 0, 0, 2, 2, 1, 1, 2, 1)
	for _, c := range []struct {
		kind  int
		l     []api.Pair
		pairs []api.Pair
		keys  []api.Value
	}{
		{0, l, ints(0, 0, 1, 1, 1, 2, 2, 1, 2, 2), []api.Value{num(0), num(1), num(2)}},
		{32, l, ints(0, 0, 1, 1, 1, 2, 2, 1, 2, 2), []api.Value{num(0), num(1), num(2)}},
		{39, model.RemoveKey(l, num(0)), ints(2, 2, 2, 1, 1, 2, 1, 1), []api.Value{num(2), num(1)}},
		{32, ints(5, 3), ints(5, 3), []api.Value{num(5)}},
	} {
		for _, m := range []*multi.Map{of(t, c.kind, c.l), put(t, c.kind, c.l), of(t, c.kind, c.pairs)} {
			checkPairs(t, m, c.pairs)
			if keys := m.Keys(); !sample.SameAll(keys, c.keys) {
				t.Errorf("kind %d: keys %v, want %v", c.kind, keys, c.keys)
			}
		}
	}
}

// 20.1
func TestNew(t *testing.T) {
	for kind := range api.MaxHash + 1 {
		m := must(t)(multi.New(kind))
		check(t, m, kind, nil)
		checkHas(t, m, num(1), num(1), false)
		checkGet(t, m, num(1))
	}
	for _, kind := range sample.Beyond(api.MaxHash) {
		refused(t, api.ErrKind)(multi.New(kind))
	}
}

// 20.1: pairs that stand several times are there once; of a key all values are.
func TestOf(t *testing.T) {
	s := sample.New(1)
	for kind := range api.MaxHash + 1 {
		check(t, of(t, kind, nil), kind, nil)
		check(t, of(t, kind, []api.Pair{}), kind, nil)
		check(t, of(t, kind, ints(7, 8)), kind, ints(7, 8))
		check(t, of(t, kind, ints(7, 8, 7, 8, 7, 8)), kind, ints(7, 8))
		check(t, of(t, kind, ints(2, 1, 1, 2, 2, 1, 2, 2, 1, 2, 2, 0)), kind, ints(1, 2, 2, 0, 2, 1, 2, 2))
		for range 4 {
			l := s.Pairs(s.Below(60), 1)
			check(t, of(t, kind, l), kind, model.AddAll(nil, l))
			check(t, put(t, kind, l), kind, model.AddAll(nil, l))
		}
	}
}

// 20.2: by hand, with keys of one value and of several.
func TestStepsByHand(t *testing.T) {
	for kind := range api.MaxHash + 1 {
		m := put(t, kind, ints(1, 5, 1, 7, 2, 5))
		checkGet(t, m, num(1), num(5), num(7))
		checkGet(t, m, num(2), num(5))
		checkHas(t, m, num(1), num(7), true)
		checkHas(t, m, num(2), num(7), false)
		checkHas(t, m, num(5), num(1), false)
		check(t, must(t)(m.Put(num(2), num(7))), kind, ints(1, 5, 1, 7, 2, 5, 2, 7))
		check(t, must(t)(m.Put(num(3), num(1))), kind, ints(1, 5, 1, 7, 2, 5, 3, 1))
		one := must(t)(m.Drop(num(1), num(5)))
		check(t, one, kind, ints(1, 7, 2, 5))
		// The last value goes by Drop, and by Clear: the key is none any more.
		for _, gone := range []*multi.Map{must(t)(one.Drop(num(1), num(7))), must(t)(one.Clear(num(1))), must(t)(m.Clear(num(1)))} {
			check(t, gone, kind, ints(2, 5))
			checkGet(t, gone, num(1))
			checkHas(t, gone, num(1), num(7), false)
			check(t, must(t)(gone.Put(num(1), num(9))), kind, ints(1, 9, 2, 5))
			check(t, must(t)(gone.Clear(num(2))), kind, nil)
			check(t, must(t)(gone.Drop(num(2), num(5))), kind, nil)
		}
		check(t, one, kind, ints(1, 7, 2, 5))
		check(t, m, kind, ints(1, 5, 1, 7, 2, 5))
	}
}

// 20.2: a pair that is there comes again; a key, and a value, that is not there is asked for, and goes.
func TestNothingChanges(t *testing.T) {
	for kind := range api.MaxHash + 1 {
		l := ints(1, 5, 1, 7, 2, 5)
		m := of(t, kind, l)
		for _, p := range l {
			check(t, must(t)(m.Put(p.Key, p.Val)), kind, l)
		}
		for _, k := range []api.Value{num(3), num(5), none(), str("1"), list(num(1)), sample.Bool(1)} {
			for _, v := range []api.Value{num(5), num(1), none()} {
				checkHas(t, m, k, v, false)
				check(t, must(t)(m.Drop(k, v)), kind, l)
				check(t, must(t)(must(t)(multi.New(kind)).Drop(k, v)), kind, nil)
			}
			checkHas(t, m, num(1), k, sample.Same(k, num(5)))
			checkGet(t, m, k)
			check(t, must(t)(m.Clear(k)), kind, l)
			check(t, must(t)(must(t)(multi.New(kind)).Clear(k)), kind, nil)
		}
		check(t, must(t)(m.Drop(num(2), num(7))), kind, l)
		check(t, m, kind, l)
	}
}

// version is a multimap, and what it told when it was made.
type version struct {
	m     *multi.Map
	plain []api.Pair
}

// changed is another version, by one call.
func (r version) changed(t *testing.T, s *sample.Source, other version, stock []api.Value) version {
	t.Helper()
	k, v := stock[s.Below(len(stock))], stock[s.Below(len(stock))]
	if n := len(r.plain); n > 0 && s.Below(2) == 0 {
		p := r.plain[s.Below(n)]
		k, v = p.Key, p.Val
	}
	switch s.Below(8) {
	case 0, 1:
		less := must(t)(r.m.Drop(k, v))
		checkHas(t, less, k, v, false)
		return version{less, model.Remove(r.plain, k, v)}
	case 2:
		less := must(t)(r.m.Clear(k))
		checkGet(t, less, k)
		return version{less, model.RemoveKey(r.plain, k)}
	case 3:
		return version{r.m.Turn(), model.Turned(r.plain)}
	case 4:
		if len(r.plain)+len(other.plain) < 60 {
			return version{must(t)(multi.Union(r.m, other.m)), model.AddAll(r.plain, other.plain)}
		}
	}
	more := must(t)(r.m.Put(k, v))
	checkHas(t, more, k, v, true)
	return version{more, model.Add(r.plain, k, v)}
}

// 20.2, 20.3, 20.5, P2, P3: pairs come and go, of any older version; every version tells for ever what it told.
func TestVersions(t *testing.T) {
	for kind := range api.MaxHash + 1 {
		s := sample.New(uint64(kind))
		stock := s.Keys(6)
		now := version{must(t)(multi.New(kind)), nil}
		versions := []version{now}
		for turn := range 70 {
			if turn%3 == 0 {
				now = versions[s.Below(len(versions))]
			}
			now = now.changed(t, s, versions[s.Below(len(versions))], stock)
			check(t, now.m, kind, now.plain)
			versions = append(versions, now)
		}
		for _, v := range versions {
			check(t, v.m, kind, v.plain)
		}
	}
}

// 20.4: a key is among Keys just if its set is not empty; Len is the sum of its sets' Len.
func TestKeysAndLen(t *testing.T) {
	s := sample.New(4)
	for range 200 {
		kind := s.Below(api.MaxHash + 1)
		stock := s.Keys(8)
		now := version{must(t)(multi.New(kind)), nil}
		for range 12 {
			now = now.changed(t, s, now, stock)
			sum := 0
			keys := now.m.Keys()
			for _, k := range slices.Concat(stock, keys) {
				set, _ := now.m.Get(k)
				among := slices.ContainsFunc(keys, func(x api.Value) bool { return sample.Same(x, k) })
				if among != (set.Len() > 0) {
					t.Fatalf("%s among keys: %v, %d values", short(k), among, set.Len())
				}
			}
			for _, k := range keys {
				set, _ := now.m.Get(k)
				sum += set.Len()
			}
			if sum != now.m.Len() || sum != len(now.plain) {
				t.Fatalf("%d pairs, sets of %d, want %d", now.m.Len(), sum, len(now.plain))
			}
		}
	}
}

// 20.5: Pairs, Keys and sets hang on what is in a multimap alone: not on the way on which its pairs came, nor on others that came and went.
func TestOneForm(t *testing.T) {
	s := sample.New(6)
	for kind := range api.MaxHash + 1 {
		stock := s.Keys(6)
		var l []api.Pair
		for range 20 {
			l = append(l, pair(stock[s.Below(6)], stock[s.Below(6)]))
		}
		plain := model.AddAll(nil, l)
		ways := []*multi.Map{of(t, kind, l), of(t, kind, sample.Shuffled(s, l)), put(t, kind, l), put(t, kind, sample.Shuffled(s, l)), of(t, kind, model.Turned(l)).Turn()}
		half := len(l) / 2
		ways = append(ways, must(t)(multi.Union(of(t, kind, l[half:]), of(t, (kind+1)%64, l[:half+3]))))
		other := put(t, kind, l)
		for _, k := range stock {
			other = must(t)(other.Put(k, str("gone")))
			other = must(t)(other.Put(str("gone"), k))
			other = must(t)(other.Put(list(k), k))
		}
		other = must(t)(other.Clear(str("gone")))
		for _, k := range stock {
			other = must(t)(other.Drop(k, str("gone")))
			other = must(t)(other.Drop(list(k), k))
		}
		for _, m := range append(ways, other) {
			check(t, m, kind, plain)
			if !multi.Equal(m, ways[0]) {
				t.Fatalf("kind %d: %s is not %s", kind, short(m.Pairs()), short(ways[0].Pairs()))
			}
		}
	}
}

// 20.3: Value by hand.
func TestValueByHand(t *testing.T) {
	want := sample.Map(num(1), sample.Set(num(5), num(7)), num(2), sample.Set(num(5)))
	for kind := range api.MaxHash + 1 {
		if v, e := of(t, kind, ints(2, 5, 1, 7, 1, 5)).Value(); e != api.OK || !sample.Same(v, want) {
			t.Errorf("kind %d: %v, %v", kind, v, e)
		}
		if v, e := must(t)(multi.New(kind)).Value(); e != api.OK || !sample.Same(v, sample.Map()) {
			t.Errorf("kind %d: %v, %v", kind, v, e)
		}
	}
}

// values are so many numbers under one key.
func values(k api.Value, n int) []api.Pair {
	var out []api.Pair
	for _, v := range sample.Numbers(n) {
		out = append(out, pair(k, v))
	}
	return out
}

// 20.3: Value has value.Set's error, and value.Map's: of keys with too many values, or too deep ones, and of too many keys. A VMap of one key with n values has n + 3 parts.
func TestValueTooLong(t *testing.T) {
	deep := func(n int) api.Value { return sample.Nested(n, num(1)) }
	one := num(1)
	for _, c := range []struct {
		l    []api.Pair
		want api.Errno
	}{
		{values(one, api.MaxParts-3), api.OK}, {values(one, api.MaxParts-2), api.ErrLong}, {values(one, api.MaxParts-1), api.ErrLong}, {values(one, api.MaxParts), api.ErrLong}, {values(one, 3000), api.ErrLong},
		{append(values(num(2), 3000), pair(one, one)), api.ErrLong}, {append(values(one, 3000), pair(num(2), one)), api.ErrLong},
		{[]api.Pair{pair(one, deep(api.MaxDeep-2))}, api.OK}, {[]api.Pair{pair(one, deep(api.MaxDeep-1))}, api.ErrLong}, {[]api.Pair{pair(one, deep(api.MaxDeep))}, api.ErrLong},
		{[]api.Pair{pair(deep(api.MaxDeep-1), one)}, api.OK}, {[]api.Pair{pair(deep(api.MaxDeep), one)}, api.ErrLong},
		{model.Numbered(0, 341, one), api.OK}, {model.Numbered(0, 342, one), api.ErrLong}, {model.Numbered(0, 5000, one), api.ErrLong},
	} {
		for _, kind := range []int{0, 5, 32, 39, 63} {
			v, e := of(t, kind, c.l).Value()
			if e != c.want || e != api.OK && !sample.Same(v, none()) || e == api.OK && (v.Kind != api.VMap || value.Check(v) != api.OK) {
				t.Errorf("kind %d: Value of %s: %s, %v, want %v", kind, short(c.l), short(v), e, c.want)
			}
		}
	}
}

// P5: a multimap's Value, and its keys' sets, are one, and have one hash, whatever they are kept in and however they were made.
func TestOneHash(t *testing.T) {
	s := sample.New(5)
	for range 40 {
		var l []api.Pair
		for range s.Below(25) {
			l = append(l, pair(s.Value(1), s.Value(1)))
		}
		kind, other := s.Below(api.MaxHash+1), s.Below(api.MaxHash+1)
		plain, _ := champ.New(other)
		for _, p := range l {
			old, there, _ := plain.Get(p.Key)
			if !there {
				old = sample.Set()
			}
			set, _ := value.Set(append(old.Items, p.Val))
			plain, _ = plain.Assoc(p.Key, set)
		}
		want, _ := plain.Value()
		full, _ := hash.Full(want)
		for _, m := range []*multi.Map{of(t, kind, l), put(t, kind, sample.Shuffled(s, l)), of(t, other, l).Turn().Turn()} {
			v, e := m.Value()
			if h, wrong := hash.Full(v); e != api.OK || wrong != api.OK || h != full || !sample.Same(v, want) {
				t.Fatalf("%s: %d, %v, want %s: %d", short(v), h, e, short(want), full)
			}
			for _, k := range m.Keys() {
				set, _ := m.Get(k)
				v, _ := set.Value()
				old, _, _ := plain.Get(k)
				again, _ := hset.Of(other, old.Items)
				w, _ := again.Value()
				x, _ := hash.Full(v)
				if y, _ := hash.Full(w); x != y {
					t.Fatalf("%s: %d, want %d", short(v), x, y)
				}
			}
		}
	}
	// DOC.md's example 1: the hash of #{1 2 3} is the same whichever order it was written in.
	for kind := range api.MaxHash + 1 {
		set, _ := of(t, kind, ints(0, 3, 0, 1, 0, 2)).Get(num(0))
		v, _ := set.Value()
		if h, _ := hash.Full(v); h != 439094965 {
			t.Errorf("kind %d: %d", kind, h)
		}
	}
}
