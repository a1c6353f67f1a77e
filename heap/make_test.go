package heap_test

import (
	"slices"
	"testing"

	"spinney/api"
	"spinney/heap"
	"spinney/model"
	"spinney/sample"
)

// most is the greatest kind of hash or order that a collection of a kind may have.
func most(kind int) int {
	switch kind {
	case heap.HVec, heap.HDeque:
		return 0
	case heap.HSorted, heap.HSorts, heap.HQueue:
		return api.MaxOrder
	}
	return api.MaxHash
}

// empties are what collections without members say, by their kinds.
func empties() []api.Value {
	return []api.Value{heap.HMap: dict(), heap.HSet: set(), heap.HVec: list(), heap.HSorted: dict(), heap.HSorts: set(), heap.HDeque: list(), heap.HQueue: list(), heap.HMulti: dict(), heap.HBimap: dict()}
}

// OpNew: each kind, with each kind of hash or order that it may have, and with numbers that are none.
func TestNew(t *testing.T) {
	b := begun(t)
	for kind := heap.HMap; kind <= heap.HBimap; kind++ {
		for k := range most(kind) + 1 {
			n := b.makes(heap.OpNew, none(), kind, k)
			if got, e := b.h.Kind(n); got != kind || e != api.OK {
				t.Errorf("kind %d: %d, %v", kind, got, e)
			}
			b.says(n, empties()[kind])
			b.tells(num(0), heap.OpSize, none(), n)
		}
		for _, k := range sample.Beyond(most(kind)) {
			b.fails(api.ErrKind, heap.OpNew, none(), kind, k)
		}
	}
	for _, kind := range append(sample.Beyond(heap.HBimap), 0, heap.HTrans, heap.HSeq, 12) {
		for _, k := range []int{0, 1, 63, 64, -1} {
			b.fails(api.ErrArg, heap.OpNew, none(), kind, k)
		}
	}
}

// OpNew: the kind of hash, or the order, is the collection's own, and that of all that is made of it; OpSeq tells its members by it.
func TestOwnOrder(t *testing.T) {
	keys := nums(3, -1, 2, 0, -2, 1, 40, 7)
	for kind := heap.HMap; kind <= heap.HBimap; kind++ {
		for k := range most(kind) + 1 {
			b := begun(t)
			var members []api.Value
			for _, v := range keys {
				members = append(members, member(kind, v.Num))
				if kind == heap.HBimap {
					members[len(members)-1] = list(v, list(v))
				}
			}
			n := b.of(kind, k, members...)
			want := slices.Clone(members)
			switch kind {
			case heap.HMap, heap.HSet, heap.HMulti, heap.HBimap:
				slices.SortFunc(want, func(x, y api.Value) int { return sample.CompareInTrie(k, keyOf(x), keyOf(y)) })
			case heap.HSorted, heap.HSorts, heap.HQueue:
				slices.SortFunc(want, func(x, y api.Value) int { return inLine(k, keyOf(x), keyOf(y)) })
			}
			b.tells(list(want...), heap.OpTake, none(), b.makes(heap.OpSeq, none(), n), 99, 0)
		}
	}
}

// keyOf is the key of a list of a key and a value, or the member itself.
func keyOf(v api.Value) api.Value {
	if v.Kind == api.VList {
		return v.Items[0]
	}
	return v
}

// inLine is how two unlike values stand by an order.
func inLine(by int, x, y api.Value) int {
	if sample.Same(model.InLine(by, []api.Value{x, y})[0], x) {
		return -1
	}
	return 1
}

// OpAdd by hand: what is added twice, a key that has a value, a key that has several, a value that has a key.
func TestAdd(t *testing.T) {
	a, c, v := str("a"), str("c"), str("v")
	for _, x := range []struct {
		kind    int
		members []api.Value
		want    api.Value
		size    int64
	}{
		{heap.HMap, []api.Value{list(a, v)}, dict(a, v), 1},
		{heap.HMap, []api.Value{list(c, v), list(a, v), list(c, a)}, dict(a, v, c, a), 2},
		{heap.HSet, []api.Value{c, a, c, list(a, v)}, set(a, c, list(a, v)), 3},
		{heap.HVec, []api.Value{c, a, c, list(a, v)}, list(c, a, c, list(a, v)), 4},
		{heap.HSorted, []api.Value{list(c, v), list(a, v), list(c, a)}, dict(a, v, c, a), 2},
		{heap.HSorts, []api.Value{c, a, c, list(a, v)}, set(a, c, list(a, v)), 3},
		{heap.HDeque, []api.Value{c, a, c, list(a, v)}, list(c, a, c, list(a, v)), 4},
		{heap.HQueue, []api.Value{c, a, c, list(a, v)}, list(a, c, c, list(a, v)), 4},
		{heap.HMulti, []api.Value{list(c, v), list(a, v), list(c, a), list(c, v)}, dict(a, set(v), c, set(a, v)), 3},
		{heap.HBimap, []api.Value{list(c, a), list(a, v), list(c, v)}, dict(c, v), 1},
		{heap.HBimap, []api.Value{list(a, v), list(c, a), list(a, c)}, dict(a, c, c, a), 2},
		{heap.HVec, []api.Value{none(), none()}, list(none(), none()), 2},
		{heap.HMap, []api.Value{list(none(), none())}, dict(none(), none()), 1},
	} {
		b := begun(t)
		n := b.of(x.kind, 0, x.members...)
		b.says(n, x.want)
		b.tells(num(x.size), heap.OpSize, none(), n)
		b.says(0, empties()[x.kind])
	}
}

// OpAdd: of maps of all kinds a Val that is no VList of two; one that is not right comes first.
func TestAddOfNoPair(t *testing.T) {
	b, of := furnished(t)
	for _, kind := range []int{heap.HMap, heap.HSorted, heap.HMulti, heap.HBimap} {
		for _, v := range []api.Value{none(), sample.Bool(1), num(2), str("ab"), list(), list(num(1)), list(nums(1, 2, 3)...), set(nums(1, 2)...), dict(nums(1, 2)...), list(list(nums(1, 2)...))} {
			b.fails(api.ErrArg, heap.OpAdd, v, of[kind])
		}
		for _, w := range sample.Wrongs() {
			for _, v := range []api.Value{w, list(w), list(w, num(1)), list(num(1), w), list(num(1), num(2), w), set(w)} {
				b.fails(api.ErrValue, heap.OpAdd, v, of[kind])
			}
		}
	}
	// A key and a value that are right by themselves, and too much together.
	wide := list(sample.Numbers(600)...)
	b.fails(api.ErrValue, heap.OpAdd, list(wide, wide), of[heap.HMap])
	b.fails(api.ErrValue, heap.OpAdd, list(sample.Nested(16, num(1)), num(1)), of[heap.HMap])
	b.makes(heap.OpAdd, list(sample.Nested(15, num(1)), num(1)), of[heap.HMap])
}

// OpLess by hand: what is there, and what is not.
func TestLess(t *testing.T) {
	a, c, v := str("a"), str("c"), str("v")
	maps, sets := []api.Value{list(a, v), list(c, a)}, []api.Value{a, c}
	for _, x := range []struct {
		kind    int
		members []api.Value
		key     api.Value
		want    api.Value
	}{
		{heap.HMap, maps, a, dict(c, a)}, {heap.HMap, maps, v, dict(a, v, c, a)}, {heap.HMap, nil, a, dict()},
		{heap.HSet, sets, a, set(c)}, {heap.HSet, sets, v, set(a, c)}, {heap.HSet, nil, a, set()},
		{heap.HSorted, maps, a, dict(c, a)}, {heap.HSorted, maps, v, dict(a, v, c, a)}, {heap.HSorted, nil, a, dict()},
		{heap.HSorts, sets, a, set(c)}, {heap.HSorts, sets, v, set(a, c)}, {heap.HSorts, nil, a, set()},
		{heap.HMulti, append(maps, list(a, c)), a, dict(c, set(a))}, {heap.HMulti, append(maps, list(a, c)), v, dict(a, set(c, v), c, set(a))}, {heap.HMulti, nil, a, dict()},
		{heap.HBimap, maps, a, dict(c, a)}, {heap.HBimap, maps, v, dict(a, v, c, a)}, {heap.HBimap, nil, a, dict()},
		{heap.HMap, maps[:1], a, dict()}, {heap.HSet, sets[:1], a, set()}, {heap.HMulti, maps[:1], a, dict()},
	} {
		b := begun(t)
		n := b.of(x.kind, 0, x.members...)
		was := snapshot(b.h)
		b.says(b.makes(heap.OpLess, x.key, n), x.want)
		if at := was.unlike(snapshot(b.h)[:len(was)]); at >= 0 {
			t.Errorf("OpLess of kind %d changed handle %d", x.kind, at)
		}
	}
}

// OpGet by hand: what is there, what is not, a nil that is there.
func TestGet(t *testing.T) {
	a, c, v := str("a"), str("c"), str("v")
	b := begun(t)
	for _, kind := range []int{heap.HMap, heap.HSorted, heap.HBimap} {
		n := b.of(kind, 0, list(a, v), list(c, none()), list(none(), list(a)))
		b.tells(v, heap.OpGet, a, n)
		b.tells(none(), heap.OpGet, c, n)
		b.tells(list(a), heap.OpGet, none(), n)
		b.fails(api.ErrNone, heap.OpGet, v, n)
		b.fails(api.ErrNone, heap.OpGet, list(a), n)
		b.fails(api.ErrNone, heap.OpGet, a, b.of(kind, 0))
	}
	for _, kind := range []int{heap.HSet, heap.HSorts} {
		n := b.of(kind, 0, a, none(), list(c))
		for _, x := range []api.Value{a, none(), list(c)} {
			b.tells(x, heap.OpGet, x, n)
		}
		b.fails(api.ErrNone, heap.OpGet, c, n)
		b.fails(api.ErrNone, heap.OpGet, none(), b.of(kind, 0))
	}
	n := b.of(heap.HMulti, 0, list(a, v), list(c, none()), list(a, c), list(a, v))
	b.tells(set(c, v), heap.OpGet, a, n)
	b.tells(set(none()), heap.OpGet, c, n)
	b.fails(api.ErrNone, heap.OpGet, v, n)
	b.fails(api.ErrNone, heap.OpGet, a, b.makes(heap.OpLess, a, n))
	b.fails(api.ErrNone, heap.OpGet, a, b.of(heap.HMulti, 0))
}

// OpGet of a key of a HMulti whose values are too many for a set of them.
func TestGetOfMuch(t *testing.T) {
	b := begun(t)
	n := b.of(heap.HMulti, 0)
	for i := range int64(api.MaxParts - 1) {
		n = b.makes(heap.OpAdd, list(num(0), num(i)), n)
	}
	b.tells(set(sample.Numbers(api.MaxParts-1)...), heap.OpGet, num(0), n)
	n = b.makes(heap.OpAdd, list(num(0), num(-1)), n)
	b.fails(api.ErrLong, heap.OpGet, num(0), n)
	b.fails(api.ErrNone, heap.OpGet, num(1), n)
	deep := b.of(heap.HMulti, 0, list(num(0), sample.Nested(15, num(1))))
	b.tells(set(sample.Nested(15, num(1))), heap.OpGet, num(0), deep)
}
