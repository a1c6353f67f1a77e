package ranges_test

import (
	"slices"
	"strings"
	"testing"
	"unsafe"

	"spinney/api"
	"spinney/model"
	"spinney/ranges"
	"spinney/redblack"
	"spinney/sample"
)

// looks are the four calls that look for a pair beside a key.
func looks() []func(*redblack.Map, api.Value) (api.Pair, bool, api.Errno) {
	return []func(*redblack.Map, api.Value) (api.Pair, bool, api.Errno){ranges.Floor, ranges.Ceil, ranges.Lower, ranges.Higher}
}

// checkWrong asks for what is answered to a value that is not right.
func checkWrong(t *testing.T, m *redblack.Map, w api.Value) {
	t.Helper()
	for i, look := range looks() {
		if p, there, e := look(m, w); e != api.ErrValue || there || !sample.SamePairs([]api.Pair{p}, []api.Pair{{}}) {
			t.Errorf("look %d for %s: %v, %v, %v", i, short(w), p, there, e)
		}
	}
	if n, e := ranges.Rank(m, w); n != 0 || e != api.ErrValue {
		t.Errorf("Rank(%s): %d, %v", short(w), n, e)
	}
	for _, ends := range [][2]api.Value{{w, num(1)}, {num(1), w}, {w, w}, {num(9), w}, {w, num(-9)}} {
		for with := range 4 {
			if l, e := ranges.Between(m, ends[0], ends[1], with&1 != 0, with&2 != 0); len(l) != 0 || e != api.ErrValue {
				t.Errorf("Between(%s): %v, %v", short(ends), l, e)
			}
			if cut, e := ranges.Cut(m, ends[0], ends[1], with&1 != 0, with&2 != 0); cut != nil || e != api.ErrValue {
				t.Errorf("Cut(%s): %v", short(ends), e)
			}
		}
	}
}

// R1, R4: values that are not right, asked of maps with keys and without.
func TestWrongValues(t *testing.T) {
	for _, w := range sample.Wrongs() {
		checkWrong(t, nil, w)
		for order := range api.MaxOrder + 1 {
			m := of(t, order, ints(1, 5, 2, 6))
			checkWrong(t, m, w)
			checkWrong(t, of(t, order, nil), w)
			check(t, m, order, ints(1, 5, 2, 6), nil)
		}
	}
}

// R6: a nil map is an empty one of order 0, and so is a zero one; what is cut of it is not nil.
func TestNilMaps(t *testing.T) {
	keys := []api.Value{none(), num(1), num(-1), str("a"), list()}
	for _, m := range []*redblack.Map{nil, {}} {
		check(t, m, 0, nil, keys)
		for _, i := range sample.Beyond(0) {
			if p, e := ranges.At(m, i); e != api.ErrRange || !sample.SamePairs([]api.Pair{p}, []api.Pair{{}}) {
				t.Errorf("At(%d): %v, %v", i, p, e)
			}
		}
		cut := must(t)(ranges.Cut(m, num(2), num(1), false, false))
		check(t, must(t)(cut.Assoc(num(1), num(2))), 0, ints(1, 2), keys)
	}
	for order := range api.MaxOrder + 1 {
		check(t, of(t, order, nil), order, nil, keys)
	}
}

// All places of a map of MaxLen keys.
func TestMaxLen(t *testing.T) {
	for order := range api.MaxOrder + 1 {
		plain := model.InOrder(order, model.Numbered(0, api.MaxLen, none()))
		m := of(t, order, plain)
		for i := 0; i < api.MaxLen; i += 97 {
			p, e := ranges.At(m, i)
			if e != api.OK || !sample.Same(p.Key, plain[i].Key) || rank(t, m, p.Key) != i {
				t.Fatalf("order %d: At(%d): %v, %v", order, i, p, e)
			}
		}
		first, _ := ranges.First(m)
		last, _ := ranges.Last(m)
		if !sample.Same(first.Key, plain[0].Key) || !sample.Same(last.Key, plain[api.MaxLen-1].Key) {
			t.Errorf("order %d: first %v, last %v", order, first, last)
		}
		if _, e := ranges.At(m, api.MaxLen); e != api.ErrRange {
			t.Errorf("order %d: At(MaxLen): %v", order, e)
		}
		whole := must(t)(ranges.Cut(m, first.Key, last.Key, true, true))
		within := must(t)(ranges.Cut(m, first.Key, last.Key, false, false))
		if !redblack.Equal(whole, m) || !sample.SamePairs(within.Pairs(), plain[1:api.MaxLen-1]) || !model.FlatFits(within.Len(), within.Height()) {
			t.Errorf("order %d: cut to %d and %d keys, %d high", order, whole.Len(), within.Len(), within.Height())
		}
		i := api.MaxLen
		for k := range ranges.Back(m) {
			i--
			if !sample.Same(k, plain[i].Key) {
				t.Fatalf("order %d: Back at %d: %v", order, i, k)
			}
		}
	}
}

// A look, a cut and a first pair from the back take memory by how high the map is, not by how long.
func TestLooksAreShort(t *testing.T) {
	m := of(t, 0, model.Numbered(0, 50000, none()))
	k := num(20000)
	for name, call := range map[string]func(){
		"Floor": func() { ranges.Floor(m, k) },
		"Rank":  func() { ranges.Rank(m, k) },
		"At":    func() { ranges.At(m, 20000) },
		"Cut":   func() { ranges.Cut(m, k, num(40000), true, true) },
		"Back": func() {
			for range ranges.Back(m) {
				break
			}
		},
	} {
		if times := testing.AllocsPerRun(5, call); times > 500 {
			t.Errorf("%s: memory was taken %v times", name, times)
		}
	}
}

// spoil writes over a pair's memory.
func spoil(p api.Pair) { sample.SpoilPairs([]api.Pair{p}) }

// spoilAll writes over all that is told of a map, beside keys that it has.
func spoilAll(m *redblack.Map, keys []api.Value) {
	for _, k := range keys {
		for _, look := range looks() {
			p, _, _ := look(m, k)
			spoil(p)
		}
	}
	for i := range m.Len() {
		p, _ := ranges.At(m, i)
		spoil(p)
	}
	first, _ := ranges.First(m)
	last, _ := ranges.Last(m)
	spoil(first)
	spoil(last)
	for k, v := range ranges.Back(m) {
		spoil(pair(k, v))
	}
}

// R3: writing over an answer changes nothing that is told, of that map, of what was cut of it, or by another answer.
func TestAnswersAreNew(t *testing.T) {
	for order := range api.MaxOrder + 1 {
		keys := model.Keys(model.InOrder(order, model.Nested()))
		m := of(t, order, model.Nested())
		cut := must(t)(ranges.Cut(m, keys[0], keys[2], true, true))
		first, _ := ranges.Between(m, keys[0], keys[2], true, true)
		again, _ := ranges.Between(m, keys[0], keys[2], true, true)
		spoilAll(m, keys)
		spoilAll(cut, keys)
		sample.SpoilPairs(again)
		sample.SpoilPairs(cut.Pairs())
		if want := model.InOrder(order, model.Nested()); !sample.SamePairs(first, want) {
			t.Errorf("order %d: answers share memory: %v", order, first)
		}
		keys = model.Keys(model.Nested())
		check(t, m, order, model.Nested(), keys)
		check(t, cut, order, model.Nested(), keys)
	}
}

// R3: what is handed in stays as it is, and is not kept.
func TestArgumentsStay(t *testing.T) {
	for order := range api.MaxOrder + 1 {
		keys := sample.RoomyAll(model.Keys(model.Nested()))
		m := of(t, order, model.Nested())
		var cuts []*redblack.Map
		for _, from := range keys {
			for _, look := range looks() {
				look(m, from)
			}
			ranges.Rank(m, from)
			for _, to := range keys {
				ranges.Between(m, from, to, true, true)
				cuts = append(cuts, must(t)(ranges.Cut(m, from, to, true, true)))
			}
		}
		if !sample.SameAll(keys, model.Keys(model.Nested())) || !sample.RoomKept(keys) {
			t.Errorf("order %d: changed: %v", order, keys)
		}
		sample.Spoil(keys)
		keys = model.Keys(model.Nested())
		check(t, m, order, model.Nested(), keys)
		for i, cut := range cuts {
			check(t, cut, order, model.Between(order, model.Nested(), keys[i/3], keys[i%3], true, true), keys)
		}
	}
}

// R3
func TestTextsAreNew(t *testing.T) {
	long := strings.Repeat("a", api.MaxText)
	l := []api.Pair{pair(str(long), str(long))}
	m := of(t, 0, l)
	cut := must(t)(ranges.Cut(m, str(long), str(long), true, true))
	seen := []*byte{unsafe.StringData(long)}
	look := func(p api.Pair) {
		t.Helper()
		for _, v := range []api.Value{p.Key, p.Val} {
			at := unsafe.StringData(v.Text)
			if v.Text != long || slices.Contains(seen, at) {
				t.Errorf("the text is not new memory: %q", v.Text)
			}
			seen = append(seen, at)
		}
	}
	for _, told := range []*redblack.Map{m, cut, m} {
		first, _ := ranges.First(told)
		last, _ := ranges.Last(told)
		at, _ := ranges.At(told, 0)
		floor, _, _ := ranges.Floor(told, str(long))
		ceil, _, _ := ranges.Ceil(told, str(long))
		lower, _, _ := ranges.Lower(told, list())
		higher, _, _ := ranges.Higher(told, none())
		between, _ := ranges.Between(told, none(), list(), true, true)
		for _, p := range []api.Pair{first, last, at, floor, ceil, lower, higher, between[0], told.Pairs()[0]} {
			look(p)
		}
		for k, v := range ranges.Back(told) {
			look(pair(k, v))
		}
	}
}

// R2: a key that differs in nil and empty lists alone is the same one.
func TestNilAndEmptyLists(t *testing.T) {
	for _, v := range []api.Value{{Kind: api.VList}, {Kind: api.VSet}, {Kind: api.VMap}, {}, num(3), str("a")} {
		w := v
		w.Items = []api.Value{}
		for order := range api.MaxOrder + 1 {
			l := []api.Pair{pair(v, num(1))}
			m := of(t, order, l)
			checkPair(t, "Floor", l, 0)(ranges.Floor(m, w))
			checkPair(t, "Ceil", l, 0)(ranges.Ceil(m, w))
			checkPair(t, "Lower", l, -1)(ranges.Lower(m, w))
			checkPair(t, "Higher", l, 1)(ranges.Higher(m, w))
			check(t, must(t)(ranges.Cut(m, w, v, true, true)), order, l, []api.Value{v, w})
			check(t, must(t)(ranges.Cut(m, w, v, true, false)), order, nil, []api.Value{v, w})
			if rank(t, m, w) != 0 {
				t.Errorf("order %d: Rank(%v): %d", order, w, rank(t, m, w))
			}
		}
	}
}
