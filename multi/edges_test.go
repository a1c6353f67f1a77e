package multi_test

import (
	"slices"
	"strings"
	"testing"
	"unsafe"

	"spinney/api"
	"spinney/hset"
	"spinney/model"
	"spinney/multi"
	"spinney/sample"
)

// R6: nil multimaps are empty ones of kind 0, and so are zero ones; what is made of them is not nil.
func TestNilMaps(t *testing.T) {
	for _, m := range []*multi.Map{nil, {}} {
		if m.Kind() != 0 || m.Len() != 0 || len(m.Keys()) != 0 || len(m.Pairs()) != 0 {
			t.Errorf("%v", m)
		}
		if v, e := m.Value(); !sample.Same(v, sample.Map()) || e != api.OK {
			t.Errorf("Value: %v, %v", v, e)
		}
		checkHas(t, m, num(1), num(1), false)
		checkGet(t, m, num(1))
		check(t, must(t)(m.Put(num(1), num(5))), 0, ints(1, 5))
		check(t, must(t)(m.Drop(num(1), num(5))), 0, nil)
		check(t, must(t)(m.Clear(num(1))), 0, nil)
		check(t, m.Turn(), 0, nil)
		for _, w := range sample.Wrongs() {
			checkErrors(t, m, w)
		}
		for kind := range api.MaxHash + 1 {
			some := of(t, kind, ints(1, 5, 1, 7))
			check(t, must(t)(multi.Union(m, some)), 0, ints(1, 5, 1, 7))
			check(t, must(t)(multi.Union(some, m)), kind, ints(1, 5, 1, 7))
			checkEqual(t, m, some, false)
			checkEqual(t, m, of(t, kind, nil), true)
		}
		for _, other := range []*multi.Map{nil, {}} {
			check(t, must(t)(multi.Union(m, other)), 0, nil)
			checkEqual(t, m, other, true)
		}
	}
}

// checkErrors asks for what a multimap answers to a value that is not right.
func checkErrors(t *testing.T, m *multi.Map, w api.Value) {
	t.Helper()
	if s, e := m.Get(w); s != nil || e != api.ErrValue {
		t.Errorf("Get(%s): %v", short(w), e)
	}
	refused(t, api.ErrValue)(m.Clear(w))
	for _, p := range []api.Pair{pair(w, num(5)), pair(num(1), w), pair(w, w), pair(num(9), w)} {
		if there, e := m.Has(p.Key, p.Val); there || e != api.ErrValue {
			t.Errorf("Has(%s): %v, %v", short(p), there, e)
		}
		refused(t, api.ErrValue)(m.Put(p.Key, p.Val))
		refused(t, api.ErrValue)(m.Drop(p.Key, p.Val))
	}
}

// R1, R4: values that are not right; of a full multimap they come ahead of ErrLong.
func TestWrongValues(t *testing.T) {
	full := of(t, 5, values(num(1), api.MaxLen))
	for _, w := range sample.Wrongs() {
		for _, kind := range []int{0, 5, 32, 63} {
			m := of(t, kind, ints(1, 5, 1, 7))
			checkErrors(t, m, w)
			check(t, m, kind, ints(1, 5, 1, 7))
			for _, l := range [][]api.Pair{{pair(w, num(1))}, {pair(num(1), w)}, {pair(num(1), num(1)), pair(num(1), num(1)), pair(num(1), w)}, {pair(w, w), pair(num(1), num(1))}} {
				refused(t, api.ErrValue)(multi.Of(kind, l))
			}
		}
		checkErrors(t, full, w)
	}
}

// R1: the kind ahead of the list, its length ahead of its pairs.
func TestWhichErrorComesFirst(t *testing.T) {
	long := slices.Repeat(ints(1, 5), api.MaxLen+1)
	wrong := []api.Pair{pair(num(1), sample.Bool(2))}
	for _, kind := range sample.Beyond(api.MaxHash) {
		for _, l := range [][]api.Pair{nil, {}, ints(1, 5), wrong, long, slices.Concat(long, wrong)} {
			refused(t, api.ErrKind)(multi.Of(kind, l))
		}
	}
	for _, kind := range []int{0, 5, 32, 63} {
		for _, l := range [][]api.Pair{long, slices.Concat(wrong, long), slices.Concat(long[1:], wrong)} {
			refused(t, api.ErrLong)(multi.Of(kind, l))
		}
		refused(t, api.ErrValue)(multi.Of(kind, slices.Concat(long[2:], wrong)))
		check(t, of(t, kind, long[1:]), kind, ints(1, 5))
	}
}

// nested are pairs that hold lists, two of them of one key.
func nested() []api.Pair { return append(model.Nested(), pair(model.Nested()[0].Key, list(num(8)))) }

// R3: what is handed in stays as it is, and is not kept.
func TestArgumentsStay(t *testing.T) {
	for _, kind := range []int{0, 3, 32, 40} {
		l := sample.RoomyPairs(append(nested(), nested()...))
		m, n := of(t, kind, l), must(t)(multi.New(kind))
		for _, p := range l {
			n = must(t)(n.Put(p.Key, p.Val))
			n.Has(p.Key, p.Val)
			n.Get(p.Key)
		}
		less, cleared := must(t)(n.Drop(l[0].Key, l[0].Val)), must(t)(n.Clear(l[0].Key))
		turned, both := m.Turn(), must(t)(multi.Union(m, n))
		refused(t, api.ErrKind)(multi.Of(-1, l))
		if !sample.SamePairs(l, append(nested(), nested()...)) || !sample.PairRoomKept(l) {
			t.Errorf("kind %d: changed: %v", kind, l)
		}
		sample.SpoilPairs(l)
		check(t, m, kind, nested())
		check(t, n, kind, nested())
		check(t, both, kind, nested())
		check(t, turned, kind, model.Turned(nested()))
		check(t, less, kind, nested()[1:])
		check(t, cleared, kind, nested()[1:3])
	}
	wrong := append(nested(), pair(num(1), sample.Bool(2)))
	l := sample.RoomyPairs(wrong)
	refused(t, api.ErrValue)(multi.Of(1, l))
	if !sample.SamePairs(l, wrong) || !sample.PairRoomKept(l) {
		t.Errorf("changed: %v", l)
	}
}

// spoil writes over all that a multimap tells.
func spoil(m *multi.Map) {
	for _, k := range m.Keys() {
		set, _ := m.Get(k)
		sample.Spoil(set.Items())
		for v := range set.All() {
			sample.Spoil(v.Items)
		}
		// Another set in the place of the one that was told.
		*set = hset.Set{}
	}
	sample.Spoil(m.Keys())
	sample.SpoilPairs(m.Pairs())
	v, _ := m.Value()
	sample.Spoil(v.Items)
}

// R3: writing over an answer changes nothing that is told, of that multimap, of another version, of what was made of two.
func TestAnswersAreNew(t *testing.T) {
	for _, kind := range []int{0, 3, 32, 40} {
		m := of(t, kind, nested())
		other := must(t)(m.Put(num(1), num(2)))
		maps := []version{
			{m, nested()}, {other, append(nested(), pair(num(1), num(2)))}, {m.Turn(), model.Turned(nested())}, {must(t)(m.Drop(nested()[0].Key, nested()[0].Val)), nested()[1:]},
			{must(t)(multi.Union(m, other)), append(nested(), pair(num(1), num(2)))}, {must(t)(multi.Union(must(t)(multi.New(kind)), m)), nested()}, {must(t)(m.Clear(nested()[0].Key)), nested()[1:3]},
		}
		pairs, keys := m.Pairs(), m.Keys()
		set, _ := m.Get(nested()[0].Key)
		v, _ := m.Value()
		want, _ := of(t, kind, nested()).Value()
		for _, told := range maps {
			spoil(told.m)
		}
		for _, told := range maps {
			check(t, told.m, kind, told.plain)
		}
		if !sample.SamePairs(pairs, model.InPairOrder(kind, nested())) || !sample.SameAll(keys, m.Keys()) || !sample.Same(v, want) || set.Len() != 2 {
			t.Errorf("kind %d: answers share memory: %v, %v, %v", kind, pairs, keys, v)
		}
	}
}

// R3: lists that share memory when they are handed in, and a key that is told with each of its values, share none in one answer.
func TestListsOfOneAnswer(t *testing.T) {
	part := list(num(1), list(num(2)))
	l := []api.Pair{pair(part, part), pair(part, num(1)), pair(part, list(part))}
	for _, kind := range []int{0, 3, 32, 40} {
		m := of(t, kind, l)
		for i := range l {
			pairs := m.Pairs()
			sample.Spoil(pairs[i].Key.Items)
			want := slices.Delete(model.InPairOrder(kind, l), i, i+1)
			if own := pairs[i].Val; !sample.SamePairs(slices.Delete(pairs, i, i+1), want) || !sample.Same(own, model.InPairOrder(kind, l)[i].Val) {
				t.Errorf("kind %d: Pairs share memory", kind)
			}
		}
		check(t, m, kind, l)
	}
}

// R3
func TestTextsAreNew(t *testing.T) {
	long := strings.Repeat("a", api.MaxText)
	seen := []*byte{unsafe.StringData(long)}
	look := func(v api.Value) {
		t.Helper()
		at := unsafe.StringData(v.Text)
		if v.Text != long || slices.Contains(seen, at) {
			t.Errorf("the text is not new memory: %q", v.Text)
		}
		seen = append(seen, at)
	}
	l := []api.Pair{pair(str(long), str(long))}
	m, n := of(t, 0, l), put(t, 0, l)
	for _, told := range []*multi.Map{m, n, m.Turn(), must(t)(multi.Union(m, n)), must(t)(multi.Union(nil, m))} {
		for range 2 {
			p := told.Pairs()[0]
			set, _ := told.Get(str(long))
			whole, _ := told.Value()
			for _, v := range []api.Value{p.Key, p.Val, told.Keys()[0], set.Items()[0], whole.Items[0], whole.Items[1].Items[0]} {
				look(v)
			}
		}
	}
	// A key with several values is told anew with each of them.
	for _, p := range of(t, 0, []api.Pair{pair(str(long), num(1)), pair(str(long), num(2))}).Pairs() {
		look(p.Key)
	}
}

// R2: of pairs that differ in nil and empty lists alone there is one.
func TestNilAndEmptyLists(t *testing.T) {
	for _, v := range []api.Value{{Kind: api.VList}, {Kind: api.VSet}, {Kind: api.VMap}, {}, num(3), str("a")} {
		w := v
		w.Items = []api.Value{}
		for _, kind := range []int{0, 32} {
			m := of(t, kind, []api.Pair{pair(v, w), pair(w, v), pair(v, v)})
			check(t, m, kind, []api.Pair{pair(v, v)})
			checkHas(t, m, w, w, true)
			checkGet(t, m, w, v)
			check(t, must(t)(m.Put(w, v)), kind, []api.Pair{pair(v, v)})
			check(t, must(t)(m.Drop(w, w)), kind, nil)
			check(t, must(t)(m.Clear(w)), kind, nil)
			checkEqual(t, m, of(t, 1, []api.Pair{pair(w, w)}), true)
		}
	}
}

// 20.5: a key's set, once it was told, stays as it was, and goes on by itself: what is made of it says nothing of the multimap.
func TestSetsStay(t *testing.T) {
	for kind := range api.MaxHash + 1 {
		m := of(t, kind, ints(1, 5, 1, 7, 2, 5))
		set, _ := m.Get(num(1))
		all := set.All()
		more, _ := set.Conj(num(9))
		less, _ := set.Disj(num(5))
		must(t)(m.Put(num(1), num(8)))
		must(t)(m.Drop(num(1), num(5)))
		must(t)(m.Clear(num(1)))
		for range 2 {
			if got := slices.Collect(all); !sample.SameAll(got, sample.InTrieOrder(kind, []api.Value{num(5), num(7)})) {
				t.Errorf("kind %d: %v", kind, got)
			}
			for range all {
				break
			}
		}
		if more.Len() != 3 || less.Len() != 1 || set.Len() != 2 {
			t.Errorf("kind %d: %d, %d, %d", kind, more.Len(), less.Len(), set.Len())
		}
		check(t, m, kind, ints(1, 5, 1, 7, 2, 5))
	}
}
