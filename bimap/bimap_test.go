package bimap_test

import (
	"fmt"
	"testing"

	"spinney/api"
	"spinney/bimap"
	"spinney/champ"
	"spinney/hash"
	"spinney/model"
	"spinney/sample"
	"spinney/value"
)

func none() api.Value                   { return api.Value{} }
func num(n int64) api.Value             { return sample.Num(n) }
func str(s string) api.Value            { return sample.Str(s) }
func list(items ...api.Value) api.Value { return sample.List(items...) }
func pair(k, v api.Value) api.Pair      { return api.Pair{Key: k, Val: v} }
func ints(l ...int64) []api.Pair        { return model.Ints(l...) }

// short is what a failing test shows of something that may be long.
func short(x any) string {
	s := fmt.Sprint(x)
	return s[:min(len(s), 200)]
}

// must is a bimap that came without an error.
func must(t *testing.T) func(*bimap.Map, api.Errno) *bimap.Map {
	return func(m *bimap.Map, e api.Errno) *bimap.Map {
		t.Helper()
		if m == nil || e != api.OK {
			t.Fatalf("no bimap: %v", e)
		}
		return m
	}
}

// of is a bimap of pairs that came one by one.
func of(t *testing.T, kind int, l []api.Pair) *bimap.Map {
	t.Helper()
	m := must(t)(bimap.New(kind))
	for _, p := range l {
		m = must(t)(m.Put(p.Key, p.Val))
	}
	return m
}

// refused is for what must have been no bimap, but an error.
func refused(t *testing.T, want api.Errno) func(*bimap.Map, api.Errno) {
	return func(m *bimap.Map, e api.Errno) {
		t.Helper()
		if m != nil || e != want {
			t.Fatalf("%v, want %v", e, want)
		}
	}
}

// check asks a bimap everything, against a plain list of pairs.
func check(t *testing.T, m *bimap.Map, kind int, plain []api.Pair) {
	t.Helper()
	if wrong := model.WrongOfBimap(m, kind, plain); m == nil || wrong != "" {
		t.Fatalf("%s is wrong: %s, want %s of kind %d", wrong, short(m.Pairs()), short(plain), kind)
	}
}

// checkLacks asks for a key and a value that are not there.
func checkLacks(t *testing.T, m *bimap.Map, k, v api.Value) {
	t.Helper()
	if got, there, e := m.Get(k); there || e != api.OK || !sample.Same(got, none()) {
		t.Fatalf("Get(%s): %s, %v, %v", short(k), short(got), there, e)
	}
	if got, there, e := m.By(v); there || e != api.OK || !sample.Same(got, none()) {
		t.Fatalf("By(%s): %s, %v, %v", short(v), short(got), there, e)
	}
}

// The chapter's examples.
func TestExamples(t *testing.T) {
	a, b := str("a"), str("b")
	check(t, of(t, 0, []api.Pair{pair(num(1), a), pair(num(2), a)}), 0, []api.Pair{pair(num(2), a)})
	m := of(t, 0, []api.Pair{pair(num(1), a), pair(num(1), b)})
	check(t, m, 0, []api.Pair{pair(num(1), b)})
	if l := m.Inverse().Pairs(); !sample.SamePairs(l, []api.Pair{pair(b, num(1))}) {
		t.Errorf("Inverse: %v", l)
	}
}

// 21.1
func TestNew(t *testing.T) {
	for kind := range api.MaxHash + 1 {
		m := must(t)(bimap.New(kind))
		check(t, m, kind, nil)
		checkLacks(t, m, num(1), num(1))
		// Of the kind that was asked for, both ways.
		check(t, must(t)(must(t)(m.Put(num(1), num(2))).Put(num(2), num(1))), kind, ints(1, 2, 2, 1))
		check(t, must(t)(must(t)(m.Inverse().Put(num(1), num(2))).Put(num(2), num(1))), kind, ints(1, 2, 2, 1))
	}
	for _, kind := range sample.Beyond(api.MaxHash) {
		refused(t, api.ErrKind)(bimap.New(kind))
	}
}

// 21.3: pairs by hand. Kind 32 has natural order; under kind 39 the hash of 2 comes ahead of that of 1; the full hashes of 0, 1, 2 rise by their lowest five bits.
func TestPairsByHand(t *testing.T) {
	for _, c := range []struct {
		kind             int
		l, pairs, turned []api.Pair
	}{
		{0, ints(2, 0, 1, 2, 0, 1), ints(0, 1, 1, 2, 2, 0), ints(0, 2, 1, 0, 2, 1)},
		{32, ints(2, 0, 1, 2, 0, 1), ints(0, 1, 1, 2, 2, 0), ints(0, 2, 1, 0, 2, 1)},
		{39, ints(1, 2, 2, 1), ints(2, 1, 1, 2), ints(2, 1, 1, 2)},
		{39, ints(2, 2, 1, 1), ints(2, 2, 1, 1), ints(2, 2, 1, 1)},
		{32, ints(5, 3), ints(5, 3), ints(3, 5)},
	} {
		m := of(t, c.kind, c.l)
		if l, turned := m.Pairs(), m.Inverse().Pairs(); !sample.SamePairs(l, c.pairs) || !sample.SamePairs(turned, c.turned) || m.Len() != len(c.l) {
			t.Errorf("kind %d: %v, want %v; turned %v, want %v", c.kind, l, c.pairs, turned, c.turned)
		}
	}
}

// 21.1: a pair that is there, a key that is there with another value, a value that is there under another key, both at once, and neither of them.
func TestPutByHand(t *testing.T) {
	l := ints(1, 10, 2, 20, 3, 30)
	for kind := range api.MaxHash + 1 {
		m := of(t, kind, l)
		for _, c := range []struct {
			k, v int64
			want []api.Pair
		}{
			{1, 10, l}, {2, 20, l}, {3, 30, l},
			{1, 11, ints(1, 11, 2, 20, 3, 30)}, {3, 31, ints(1, 10, 2, 20, 3, 31)}, {2, 2, ints(1, 10, 2, 2, 3, 30)},
			{4, 10, ints(4, 10, 2, 20, 3, 30)}, {0, 30, ints(1, 10, 2, 20, 0, 30)}, {20, 20, ints(1, 10, 20, 20, 3, 30)},
			{1, 20, ints(1, 20, 3, 30)}, {2, 10, ints(2, 10, 3, 30)}, {3, 10, ints(3, 10, 2, 20)}, {1, 30, ints(1, 30, 2, 20)},
			{4, 40, ints(1, 10, 2, 20, 3, 30, 4, 40)},
			// What is a key in one pair is a value in another one.
			{4, 1, ints(1, 10, 2, 20, 3, 30, 4, 1)}, {10, 2, ints(1, 10, 2, 20, 3, 30, 10, 2)}, {10, 1, ints(1, 10, 2, 20, 3, 30, 10, 1)}, {10, 20, ints(1, 10, 10, 20, 3, 30)}, {1, 2, ints(1, 2, 2, 20, 3, 30)}, {7, 7, ints(1, 10, 2, 20, 3, 30, 7, 7)},
		} {
			more := must(t)(m.Put(num(c.k), num(c.v)))
			check(t, more, kind, c.want)
			check(t, m, kind, l)
			// Turned about it is the same.
			check(t, must(t)(m.Inverse().Put(num(c.v), num(c.k))), kind, model.Turned(c.want))
		}
		checkLacks(t, must(t)(m.Put(num(1), num(20))), num(2), num(10))
		checkLacks(t, must(t)(m.Put(num(4), num(10))), num(1), num(40))
		checkLacks(t, must(t)(m.Put(num(1), num(11))), num(4), num(10))
	}
}

// The chapter's words: a text may be a key in one pair, and a value in another one, or in the same one.
func TestTextsOnBothSides(t *testing.T) {
	a, b, c := str("a"), str("b"), str("c")
	for kind := range api.MaxHash + 1 {
		m := of(t, kind, []api.Pair{pair(a, b), pair(b, c), pair(c, a)})
		check(t, m, kind, []api.Pair{pair(a, b), pair(b, c), pair(c, a)})
		check(t, must(t)(m.Put(a, a)), kind, []api.Pair{pair(a, a), pair(b, c)})
		check(t, must(t)(m.Put(b, a)), kind, []api.Pair{pair(a, b), pair(b, a)})
		check(t, must(t)(m.Delete(a)), kind, []api.Pair{pair(b, c), pair(c, a)})
		check(t, must(t)(m.DeleteBy(a)), kind, []api.Pair{pair(a, b), pair(b, c)})
		check(t, m.Inverse(), kind, []api.Pair{pair(b, a), pair(c, b), pair(a, c)})
		own := of(t, kind, []api.Pair{pair(a, a), pair(b, b)})
		check(t, own, kind, []api.Pair{pair(a, a), pair(b, b)})
		check(t, own.Inverse(), kind, []api.Pair{pair(a, a), pair(b, b)})
		check(t, must(t)(own.Put(a, b)), kind, []api.Pair{pair(a, b)})
	}
}

// 21.2: what is there goes by its key and by its value.
func TestDeleteByHand(t *testing.T) {
	l := ints(1, 10, 2, 20, 10, 1)
	for kind := range api.MaxHash + 1 {
		m := of(t, kind, l)
		for i, p := range l {
			rest := append(append([]api.Pair{}, l[:i]...), l[i+1:]...)
			byKey, byValue := must(t)(m.Delete(p.Key)), must(t)(m.DeleteBy(p.Val))
			for _, less := range []*bimap.Map{byKey, byValue} {
				check(t, less, kind, rest)
				checkLacks(t, less, p.Key, p.Val)
				check(t, must(t)(less.Put(p.Key, p.Val)), kind, l)
			}
			check(t, must(t)(m.Inverse().Delete(p.Val)), kind, model.Turned(rest))
			check(t, must(t)(m.Inverse().DeleteBy(p.Key)), kind, model.Turned(rest))
		}
		empty := must(t)(must(t)(must(t)(m.Delete(num(1))).DeleteBy(num(20))).Delete(num(10)))
		check(t, empty, kind, nil)
		check(t, must(t)(empty.Put(num(5), num(6))), kind, ints(5, 6))
		check(t, m, kind, l)
	}
}

// 21.2: what is not there is asked for, and goes: also a value among the keys, and a key among the values.
func TestNothingChanges(t *testing.T) {
	l := ints(1, 10, 2, 20)
	for kind := range api.MaxHash + 1 {
		m, empty := of(t, kind, l), must(t)(bimap.New(kind))
		for _, p := range []api.Pair{pair(num(10), num(1)), pair(num(20), num(2)), pair(num(3), num(3)), pair(none(), none()), pair(str("1"), str("10")), pair(list(num(1)), list(num(10))), pair(sample.Bool(1), sample.Bool(0))} {
			checkLacks(t, m, p.Key, p.Val)
			checkLacks(t, empty, p.Key, p.Val)
			check(t, must(t)(m.Delete(p.Key)), kind, l)
			check(t, must(t)(m.DeleteBy(p.Val)), kind, l)
			check(t, must(t)(empty.Delete(p.Key)), kind, nil)
			check(t, must(t)(empty.DeleteBy(p.Val)), kind, nil)
		}
		for _, p := range l {
			check(t, must(t)(m.Put(p.Key, p.Val)), kind, l)
		}
		check(t, m, kind, l)
	}
}

// 21.3, 21.4: of an empty one, of Inverse, and what is made of it goes on by itself.
func TestInverse(t *testing.T) {
	for kind := range api.MaxHash + 1 {
		check(t, must(t)(bimap.New(kind)).Inverse(), kind, nil)
		check(t, must(t)(bimap.New(kind)).Inverse().Inverse(), kind, nil)
		m := of(t, kind, ints(1, 10, 2, 20))
		turned := m.Inverse()
		check(t, turned, kind, ints(10, 1, 20, 2))
		check(t, turned.Inverse(), kind, ints(1, 10, 2, 20))
		check(t, must(t)(turned.Put(num(30), num(2))), kind, ints(10, 1, 30, 2))
		check(t, must(t)(turned.Inverse().Put(num(3), num(20))), kind, ints(1, 10, 3, 20))
		check(t, must(t)(turned.Delete(num(10))).Inverse(), kind, ints(2, 20))
		check(t, turned, kind, ints(10, 1, 20, 2))
		check(t, m, kind, ints(1, 10, 2, 20))
	}
}

// version is a bimap, and what it told when it was made.
type version struct {
	m     *bimap.Map
	plain []api.Pair
}

// changed is another version, by one call, with keys and values of one stock.
func (r version) changed(t *testing.T, s *sample.Source, stock []api.Value) version {
	t.Helper()
	k, v := stock[s.Below(len(stock))], stock[s.Below(len(stock))]
	switch s.Below(8) {
	case 0:
		less := must(t)(r.m.Delete(k))
		checkLacks(t, less, k, str("not there"))
		return version{less, model.RemoveKey(r.plain, k)}
	case 1:
		less := must(t)(r.m.DeleteBy(v))
		checkLacks(t, less, str("not there"), v)
		return version{less, model.RemoveValue(r.plain, v)}
	case 2:
		return version{r.m.Inverse(), model.Turned(r.plain)}
	}
	return version{must(t)(r.m.Put(k, v)), model.PutBoth(r.plain, k, v)}
}

// 21.1 to 21.3, P2, P3: pairs come and go, of any older version; every version tells for ever what it told.
func TestVersions(t *testing.T) {
	for kind := range api.MaxHash + 1 {
		s := sample.New(uint64(kind))
		stock := s.Keys(3 + kind%10)
		now := version{must(t)(bimap.New(kind)), nil}
		versions := []version{now}
		for turn := range 120 {
			if turn%3 == 0 {
				now = versions[s.Below(len(versions))]
			}
			now = now.changed(t, s, stock)
			check(t, now.m, kind, now.plain)
			versions = append(versions, now)
		}
		for _, v := range versions {
			check(t, v.m, kind, v.plain)
		}
	}
}

// 21.4: By of Get(k) is k, Get of By(v) is v; Inverse of Inverse is it; each value stands once, and each key.
func TestLaws(t *testing.T) {
	s := sample.New(4)
	for range 200 {
		kind := s.Below(api.MaxHash + 1)
		stock := s.Keys(8)
		now := version{must(t)(bimap.New(kind)), nil}
		for range 15 {
			now = now.changed(t, s, stock)
			for _, x := range stock {
				if v, there, _ := now.m.Get(x); there {
					if k, there, e := now.m.By(v); !there || e != api.OK || !sample.Same(k, x) {
						t.Fatalf("By of Get(%s): %s, %v, %v", short(x), short(k), there, e)
					}
				}
				if k, there, _ := now.m.By(x); there {
					if v, there, e := now.m.Get(k); !there || e != api.OK || !sample.Same(v, x) {
						t.Fatalf("Get of By(%s): %s, %v, %v", short(x), short(v), there, e)
					}
				}
			}
			pairs := now.m.Pairs()
			if again := now.m.Inverse().Inverse().Pairs(); !sample.SamePairs(again, pairs) {
				t.Fatalf("Inverse of Inverse: %s, want %s", short(again), short(pairs))
			}
			for i, p := range pairs {
				for _, q := range pairs[:i] {
					if sample.Same(p.Key, q.Key) || sample.Same(p.Val, q.Val) {
						t.Fatalf("twice: %s and %s", short(p), short(q))
					}
				}
			}
		}
	}
}

// P2: many keys, that share their places of a trie in one way or another.
func TestMany(t *testing.T) {
	for _, kind := range []int{0, 3, 5, 31, 32, 39, 40, 63} {
		s := sample.New(uint64(kind))
		var l []api.Pair
		for i, v := range sample.Shuffled(s, sample.Numbers(600)) {
			l = append(l, pair(num(int64(i)), v))
		}
		m := of(t, kind, l)
		check(t, m, kind, l)
		// Every third one goes, by its key or by its value; of the others each key has another one's value.
		var rest []api.Pair
		for i, p := range l {
			switch i % 3 {
			case 0:
				m = must(t)(m.Delete(p.Key))
				m = must(t)(m.DeleteBy(p.Val))
			case 1:
				rest = append(rest, p)
			case 2:
				m = must(t)(m.DeleteBy(p.Val))
				rest = append(rest, pair(p.Key, str("new "+fmt.Sprint(i))))
				m = must(t)(m.Put(rest[len(rest)-1].Key, rest[len(rest)-1].Val))
			}
		}
		check(t, m, kind, rest)
		check(t, of(t, kind, l), kind, l)
	}
}

// P4 as far as it is told: Pairs hang on what is in a bimap alone, not on the way on which its pairs came, nor on others that came and went.
func TestOneForm(t *testing.T) {
	s := sample.New(6)
	for kind := range api.MaxHash + 1 {
		stock := s.Keys(12)
		var l []api.Pair
		for i := range 6 {
			l = append(l, pair(stock[i], stock[11-i]))
		}
		other := of(t, kind, l)
		for i := range 6 {
			other = must(t)(other.Put(stock[i], stock[i]))
			other = must(t)(other.Put(str("gone"), stock[11-i]))
		}
		other = must(t)(other.Delete(str("gone")))
		for _, p := range sample.Shuffled(s, l) {
			other = must(t)(other.Put(p.Key, p.Val))
		}
		for _, m := range []*bimap.Map{of(t, kind, l), of(t, kind, sample.Shuffled(s, l)), of(t, kind, model.Turned(l)).Inverse(), other} {
			check(t, m, kind, l)
		}
	}
}

// P5: the values that a bimap tells, and the VMap of its pairs, have one hash, whatever they are kept in and however they came.
func TestOneHash(t *testing.T) {
	s := sample.New(5)
	for range 60 {
		stock := s.Keys(20)
		var l []api.Pair
		for range s.Below(30) {
			l = model.PutBoth(l, stock[s.Below(20)], stock[s.Below(20)])
		}
		kind, other := s.Below(api.MaxHash+1), s.Below(api.MaxHash+1)
		plain, _ := champ.Of(other, l)
		want, _ := plain.Value()
		full, _ := hash.Full(want)
		for _, m := range []*bimap.Map{of(t, kind, l), of(t, other, sample.Shuffled(s, l)), of(t, kind, model.Turned(l)).Inverse()} {
			v, e := value.Map(m.Pairs())
			if h, _ := hash.Full(v); e != api.OK || h != full {
				t.Fatalf("%s: %d, want %d", short(v), h, full)
			}
			for _, p := range l {
				v, _, _ := m.Get(p.Key)
				k, _, _ := m.By(p.Val)
				checkHash(t, v, p.Val)
				checkHash(t, k, p.Key)
			}
		}
	}
	// DOC.md's examples 1 and 2, of keys and of values.
	for kind := range api.MaxHash + 1 {
		m := of(t, kind, []api.Pair{pair(num(1), list(num(1), num(2), num(3))), pair(list(), sample.Set(num(1), num(2), num(3)))})
		v, _, _ := m.Get(num(1))
		w, _, _ := m.Get(list())
		k, _, _ := m.By(v)
		n, _, _ := m.By(w)
		for i, x := range []api.Value{k, n, v, w} {
			if h, _ := hash.Full(x); h != []uint32{1392991556, 2277397642, 736442005, 439094965}[i] {
				t.Errorf("kind %d: %s: %d", kind, short(x), h)
			}
		}
	}
}

// checkHash asks whether two values have one hash of each kind.
func checkHash(t *testing.T, v, w api.Value) {
	t.Helper()
	for _, kind := range []int{0, 7, 33} {
		x, _ := hash.Of(kind, v)
		if y, e := hash.Of(kind, w); x != y || e != api.OK {
			t.Fatalf("kind %d: %s: %d, want %d", kind, short(v), x, y)
		}
	}
}
