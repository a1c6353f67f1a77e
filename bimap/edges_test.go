package bimap_test

import (
	"slices"
	"strings"
	"testing"
	"unsafe"

	"spinney/api"
	"spinney/bimap"
	"spinney/model"
	"spinney/sample"
)

// R6: nil bimaps are empty ones of kind 0, and so are zero ones; what is made of them is not nil.
func TestNilMaps(t *testing.T) {
	for _, m := range []*bimap.Map{nil, {}} {
		if m.Len() != 0 || len(m.Pairs()) != 0 {
			t.Errorf("%v", m)
		}
		checkLacks(t, m, num(1), num(1))
		// Many enough to tell kind 0 from the others by their order.
		more, turned := m, m.Inverse()
		for _, p := range numbered(100) {
			more, turned = must(t)(more.Put(p.Key, p.Val)), must(t)(turned.Put(p.Key, p.Val))
		}
		check(t, more, 0, numbered(100))
		check(t, turned, 0, numbered(100))
		check(t, must(t)(m.Delete(num(1))), 0, nil)
		check(t, must(t)(m.DeleteBy(num(1))), 0, nil)
		check(t, m.Inverse(), 0, nil)
		check(t, m.Inverse().Inverse(), 0, nil)
		for _, w := range sample.Wrongs() {
			checkErrors(t, m, w)
		}
	}
}

// numbered are n pairs of unlike keys and values, no value a key.
func numbered(n int) []api.Pair {
	var out []api.Pair
	for i := range int64(n) {
		out = append(out, pair(num(i), num(-i-1)))
	}
	return out
}

// checkErrors asks for what a bimap answers to a value that is not right.
func checkErrors(t *testing.T, m *bimap.Map, w api.Value) {
	t.Helper()
	if v, there, e := m.Get(w); there || e != api.ErrValue || !sample.Same(v, none()) {
		t.Errorf("Get(%s): %s, %v, %v", short(w), short(v), there, e)
	}
	if k, there, e := m.By(w); there || e != api.ErrValue || !sample.Same(k, none()) {
		t.Errorf("By(%s): %s, %v, %v", short(w), short(k), there, e)
	}
	refused(t, api.ErrValue)(m.Delete(w))
	refused(t, api.ErrValue)(m.DeleteBy(w))
	for _, p := range []api.Pair{pair(w, num(-1)), pair(num(0), w), pair(w, w), pair(num(1<<40), w), pair(w, num(1<<40))} {
		refused(t, api.ErrValue)(m.Put(p.Key, p.Val))
	}
}

// full is a bimap of MaxLen pairs: of the keys 0, 1 .. with the values -1, -2 ..
func full(t *testing.T, kind int) *bimap.Map {
	t.Helper()
	return of(t, kind, numbered(api.MaxLen))
}

// R1, R4: values that are not right; of a full bimap they come ahead of ErrLong.
func TestWrongValues(t *testing.T) {
	most := full(t, 5)
	for _, w := range sample.Wrongs() {
		for _, kind := range []int{0, 5, 32, 63} {
			m := of(t, kind, ints(0, -1, 1, -2))
			checkErrors(t, m, w)
			check(t, m, kind, ints(0, -1, 1, -2))
		}
		checkErrors(t, most, w)
	}
	if most.Len() != api.MaxLen {
		t.Errorf("%d pairs", most.Len())
	}
}

// 21.1: Put at MaxLen pairs: where no pair goes by it, where one does, and where two do.
func TestMaxLen(t *testing.T) {
	const n = api.MaxLen
	for _, kind := range []int{0, 5, 32} {
		m := full(t, kind)
		refused(t, api.ErrLong)(m.Put(num(n), num(n)))
		refused(t, api.ErrLong)(m.Put(str("more"), str("more")))
		// A value that is a key elsewhere, and a key that is a value elsewhere, make no room.
		refused(t, api.ErrLong)(m.Put(num(-1), num(0)))
		refused(t, api.ErrLong)(m.Inverse().Put(num(n), num(n)))
		for _, c := range []struct {
			k, v, len int64
		}{
			{7, -8, n}, {7, n, n}, {n, -8, n}, {7, -9, n - 1}, {-1, -1, n}, {0, 0, n},
		} {
			more := must(t)(m.Put(num(c.k), num(c.v)))
			v, _, _ := more.Get(num(c.k))
			k, _, _ := more.By(num(c.v))
			if more.Len() != int(c.len) || more.Inverse().Len() != int(c.len) || v.Num != c.v || k.Num != c.k {
				t.Errorf("kind %d: Put(%d, %d): %d pairs, %d, %d", kind, c.k, c.v, more.Len(), v.Num, k.Num)
			}
			if c.len == n {
				refused(t, api.ErrLong)(more.Put(str("more"), str("more")))
			} else if again := must(t)(more.Put(str("more"), str("more"))); again.Len() != n {
				t.Errorf("kind %d: %d pairs", kind, again.Len())
			}
		}
		less := must(t)(m.DeleteBy(num(-5)))
		more := must(t)(less.Put(str("more"), str("more")))
		refused(t, api.ErrLong)(more.Put(num(4), num(-5)))
		if m.Len() != n || less.Len() != n-1 || more.Len() != n {
			t.Errorf("kind %d: %d, %d, %d pairs", kind, m.Len(), less.Len(), more.Len())
		}
	}
	m := full(t, 3)
	if !sample.SamePairs(m.Pairs(), model.InTrieOrder(3, numbered(n))) || !sample.SamePairs(m.Inverse().Pairs(), model.InTrieOrder(3, model.Turned(numbered(n)))) {
		t.Errorf("MaxLen pairs are not those that were put")
	}
}

// nested are pairs that hold lists on both sides.
func nested() []api.Pair {
	out := model.Nested()
	for i := range out {
		out[i].Val = list(num(int64(i)), list(out[i].Val))
	}
	return out
}

// R3: what is handed in stays as it is, and is not kept.
func TestArgumentsStay(t *testing.T) {
	for _, kind := range []int{0, 3, 32, 40} {
		l := sample.RoomyPairs(nested())
		m := must(t)(bimap.New(kind))
		for _, p := range l {
			m = must(t)(m.Put(p.Key, p.Val))
			m.Get(p.Key)
			m.By(p.Val)
		}
		again := must(t)(m.Put(l[0].Key, l[0].Val))
		less, cut := must(t)(m.Delete(l[0].Key)), must(t)(m.DeleteBy(l[0].Val))
		crossed := must(t)(m.Put(l[0].Key, l[1].Val))
		if !sample.SamePairs(l, nested()) || !sample.PairRoomKept(l) {
			t.Errorf("kind %d: changed: %v", kind, l)
		}
		sample.SpoilPairs(l)
		check(t, m, kind, nested())
		check(t, again, kind, nested())
		check(t, less, kind, nested()[1:])
		check(t, cut, kind, nested()[1:])
		check(t, crossed, kind, model.PutBoth(nested(), nested()[0].Key, nested()[1].Val))
	}
	for _, w := range sample.Wrongs() {
		p := sample.RoomyPairs([]api.Pair{pair(list(num(1)), w), pair(w, list(num(1)))})
		m := must(t)(bimap.New(0))
		for _, q := range p {
			refused(t, api.ErrValue)(m.Put(q.Key, q.Val))
		}
		if !sample.SamePairs(p, []api.Pair{pair(list(num(1)), w), pair(w, list(num(1)))}) || !sample.PairRoomKept(p) {
			t.Errorf("changed: %s", short(p))
		}
	}
}

// spoil writes over all that a bimap tells of some pairs.
func spoil(m *bimap.Map, l []api.Pair) {
	for _, p := range l {
		v, _, _ := m.Get(p.Key)
		k, _, _ := m.By(p.Val)
		sample.Spoil(v.Items)
		sample.Spoil(k.Items)
	}
	sample.SpoilPairs(m.Pairs())
}

// R3: writing over an answer changes nothing that is told, of that bimap, of its other side, of another version.
func TestAnswersAreNew(t *testing.T) {
	for _, kind := range []int{0, 3, 32, 40} {
		m := of(t, kind, nested())
		told := []version{
			{m, nested()}, {m.Inverse(), model.Turned(nested())}, {m.Inverse().Inverse(), nested()},
			{must(t)(m.Put(num(1), num(2))), append(nested(), pair(num(1), num(2)))}, {must(t)(m.Delete(nested()[0].Key)), nested()[1:]}, {must(t)(m.DeleteBy(nested()[0].Val)), nested()[1:]},
		}
		pairs := m.Pairs()
		v, _, _ := m.Get(nested()[0].Key)
		k, _, _ := m.By(nested()[0].Val)
		for _, one := range told {
			spoil(one.m, one.plain)
		}
		for _, one := range told {
			check(t, one.m, kind, one.plain)
		}
		if !sample.SamePairs(pairs, model.InTrieOrder(kind, nested())) || !sample.Same(v, nested()[0].Val) || !sample.Same(k, nested()[0].Key) {
			t.Errorf("kind %d: answers share memory: %v, %v, %v", kind, pairs, v, k)
		}
	}
}

// R3: lists that share memory when they are handed in share none in one answer; a key that is a value elsewhere shares none with it.
func TestListsOfOneAnswer(t *testing.T) {
	part := list(num(1), list(num(2)))
	l := []api.Pair{pair(part, part), pair(part.Items[1], list(part)), pair(list(part), part.Items[1])}
	for _, kind := range []int{0, 3, 32, 40} {
		m, want := of(t, kind, l), model.InTrieOrder(kind, l)
		for i := range l {
			pairs := m.Pairs()
			sample.Spoil(pairs[i].Key.Items)
			if own := pairs[i].Val; !sample.SamePairs(slices.Delete(pairs, i, i+1), slices.Delete(slices.Clone(want), i, i+1)) || !sample.Same(own, want[i].Val) {
				t.Errorf("kind %d: Pairs share memory", kind)
			}
		}
		check(t, m, kind, l)
	}
}

// R3
func TestTextsAreNew(t *testing.T) {
	long := strings.Repeat("a", api.MaxText)
	seen := []*byte{unsafe.StringData(long)}
	m := of(t, 0, []api.Pair{pair(str(long), str(long))})
	for _, told := range []*bimap.Map{m, m.Inverse(), must(t)(m.Put(num(1), num(2)))} {
		for range 2 {
			v, _, _ := told.Get(str(long))
			k, _, _ := told.By(str(long))
			pairs := told.Pairs()
			if i := model.Find(pairs, num(1)); i >= 0 {
				pairs = slices.Delete(pairs, i, i+1)
			}
			for _, x := range []api.Value{v, k, pairs[0].Key, pairs[0].Val} {
				at := unsafe.StringData(x.Text)
				if x.Text != long || slices.Contains(seen, at) {
					t.Errorf("the text is not new memory: %q", x.Text)
				}
				seen = append(seen, at)
			}
		}
	}
}

// R2: values that differ in nil and empty lists alone are the same.
func TestNilAndEmptyLists(t *testing.T) {
	for _, v := range []api.Value{{Kind: api.VList}, {Kind: api.VSet}, {Kind: api.VMap}, {}, num(3), str("a")} {
		w := v
		w.Items = []api.Value{}
		for _, kind := range []int{0, 32} {
			m := of(t, kind, []api.Pair{pair(v, w), pair(w, v), pair(v, v)})
			check(t, m, kind, []api.Pair{pair(v, v)})
			check(t, m, kind, []api.Pair{pair(w, w)})
			check(t, must(t)(m.Put(num(9), w)), kind, []api.Pair{pair(num(9), v)})
			check(t, must(t)(m.Put(w, num(9))), kind, []api.Pair{pair(v, num(9))})
			check(t, must(t)(m.Delete(w)), kind, nil)
			check(t, must(t)(m.DeleteBy(w)), kind, nil)
		}
	}
}

// R6: the same call of the same bimap tells the same; the calls that only ask change nothing.
func TestAgain(t *testing.T) {
	m := of(t, 5, nested())
	for range 3 {
		check(t, m, 5, nested())
		check(t, must(t)(m.Put(num(1), nested()[0].Val)), 5, model.PutBoth(nested(), num(1), nested()[0].Val))
		refused(t, api.ErrValue)(m.Put(num(1), sample.Bool(2)))
		refused(t, api.ErrValue)(m.Delete(sample.Bool(2)))
	}
}
