package redblack_test

import (
	"slices"
	"strings"
	"testing"
	"unsafe"

	"spinney/api"
	"spinney/model"
	"spinney/redblack"
	"spinney/sample"
	"spinney/value"
)

// R3: what is handed in stays as it is, and is not kept.
func TestArgumentsStay(t *testing.T) {
	for order := range api.MaxOrder + 1 {
		in := model.InOrder(order, model.Nested())
		l, rising := sample.RoomyPairs(model.Nested()), sample.RoomyPairs(in)
		twice := sample.RoomyPairs(slices.Concat(model.Nested(), model.Nested()))
		m, again := of(t, order, l), of(t, order, twice)
		up := must(t)(redblack.Rising(order, rising))
		n := must(t)(redblack.New(order))
		for _, p := range l {
			n = must(t)(n.Assoc(p.Key, p.Val))
			n = must(t)(n.Assoc(p.Key, p.Val))
		}
		less := must(t)(n.Dissoc(l[0].Key))
		m.Get(l[0].Key)
		for _, given := range []struct{ l, was []api.Pair }{{l, model.Nested()}, {rising, in}, {twice, slices.Concat(model.Nested(), model.Nested())}} {
			if !sample.SamePairs(given.l, given.was) || !sample.PairRoomKept(given.l) {
				t.Errorf("order %d: changed: %v", order, given.l)
			}
			sample.SpoilPairs(given.l)
		}
		for _, told := range []*redblack.Map{m, again, up, n} {
			check(t, told, order, model.Nested())
		}
		check(t, less, order, model.Nested()[1:])
	}
}

// R3: a list that does not rise, or is wrong, stays as it is, too.
func TestRefusedArgumentsStay(t *testing.T) {
	for order := range api.MaxOrder + 1 {
		was := reversed(model.InOrder(order, model.Nested()))
		l := sample.RoomyPairs(was)
		refused(t, api.ErrArg)(redblack.Rising(order, l))
		refused(t, api.ErrKind)(redblack.Of(-1, l))
		if !sample.SamePairs(l, was) || !sample.PairRoomKept(l) {
			t.Errorf("order %d: changed: %v", order, l)
		}
	}
}

// spoil writes over all that a map tells.
func spoil(m *redblack.Map) {
	sample.SpoilPairs(m.Pairs())
	for k, v := range m.All() {
		sample.Spoil(k.Items)
		sample.Spoil(v.Items)
	}
	for _, p := range model.Nested() {
		v, _, _ := m.Get(p.Key)
		sample.Spoil(v.Items)
	}
	v, _ := m.Value()
	sample.Spoil(v.Items)
}

// R3: writing over an answer changes nothing that is told, of that map, of another version, or of what was made of two.
func TestAnswersAreNew(t *testing.T) {
	for order := range api.MaxOrder + 1 {
		m := of(t, order, model.Nested())
		other := must(t)(m.Assoc(num(1), num(2)))
		less := must(t)(m.Dissoc(model.Nested()[0].Key))
		turned := must(t)(m.Turn(api.MaxOrder - order))
		both := must(t)(redblack.Union(less, turned))
		first, again := m.Pairs(), m.Pairs()
		v, _ := m.Value()
		for _, told := range []*redblack.Map{m, other, less, turned, both} {
			spoil(told)
		}
		sample.SpoilPairs(again)
		check(t, m, order, model.Nested())
		check(t, other, order, append(model.Nested(), ints(1, 2)...))
		check(t, less, order, model.Nested()[1:])
		check(t, turned, api.MaxOrder-order, model.Nested())
		check(t, both, order, model.Nested())
		if want, _ := value.Map(model.Nested()); !sample.SamePairs(first, model.InOrder(order, model.Nested())) || !sample.Same(v, want) {
			t.Errorf("order %d: answers share memory: %v, %v", order, first, v)
		}
	}
}

// R3: lists that share memory when they are handed in share none in one answer.
func TestListsOfOneAnswer(t *testing.T) {
	part := list(num(1), list(num(2)))
	pairs := []api.Pair{pair(part, part), pair(list(part), part)}
	for order := range api.MaxOrder + 1 {
		l := of(t, order, pairs).Pairs()
		sample.Spoil(l[0].Key.Items)
		sample.Spoil(l[0].Val.Items)
		if want := model.InOrder(order, pairs)[1:]; !sample.SamePairs(l[1:], want) {
			t.Errorf("Pairs: %v, want %v", l[1:], want)
		}
	}
}

// R3
func TestTextsAreNew(t *testing.T) {
	long := strings.Repeat("a", api.MaxText)
	l := []api.Pair{pair(str(long), str(long))}
	m, up := of(t, 0, l), must(t)(redblack.Rising(0, l))
	n := must(t)(must(t)(redblack.New(0)).Assoc(str(long), str(long)))
	seen := []*byte{unsafe.StringData(long)}
	look := func(v api.Value) {
		t.Helper()
		at := unsafe.StringData(v.Text)
		if v.Text != long || slices.Contains(seen, at) {
			t.Errorf("the text is not new memory: %q", v.Text)
		}
		seen = append(seen, at)
	}
	for _, told := range []*redblack.Map{m, up, n, must(t)(m.Turn(1)), must(t)(redblack.Union(nil, m))} {
		for range 2 {
			p := told.Pairs()[0]
			look(p.Key)
			look(p.Val)
			v, _, _ := told.Get(str(long))
			look(v)
			whole, _ := told.Value()
			look(whole.Items[0])
			look(whole.Items[1])
			for k, v := range told.All() {
				look(k)
				look(v)
			}
		}
	}
}

// R2: of keys that differ in nil and empty lists alone there is one.
func TestNilAndEmptyLists(t *testing.T) {
	for _, v := range []api.Value{{Kind: api.VList}, {Kind: api.VSet}, {Kind: api.VMap}, {}, num(3), str("a")} {
		w := v
		w.Items = []api.Value{}
		for order := range api.MaxOrder + 1 {
			m := of(t, order, []api.Pair{pair(v, num(1)), pair(w, num(2))})
			check(t, m, order, []api.Pair{pair(v, num(2))})
			check(t, must(t)(m.Assoc(v, w)), order, []api.Pair{pair(w, v)})
			check(t, must(t)(m.Dissoc(w)), order, nil)
			refused(t, api.ErrArg)(redblack.Rising(order, []api.Pair{pair(v, none()), pair(w, none())}))
			checkEqual(t, of(t, order, []api.Pair{pair(v, w)}), of(t, 1, []api.Pair{pair(w, v)}), true)
		}
	}
}
