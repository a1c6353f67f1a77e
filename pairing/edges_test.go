package pairing_test

import (
	"slices"
	"strings"
	"testing"
	"unsafe"

	"spinney/api"
	"spinney/model"
	"spinney/pairing"
	"spinney/sample"
)

// R6: nil queues are empty ones of order 0, and so are zero ones; what is made of them is not nil.
func TestNilQueues(t *testing.T) {
	for _, q := range []*pairing.Queue{nil, {}} {
		if q.Order() != 0 || q.Len() != 0 || len(q.Sorted()) != 0 {
			t.Errorf("%v", q)
		}
		checkEmpty(t, q)
		check(t, must(t)(q.Push(num(1))), 0, ints(1))
		for _, w := range sample.Wrongs() {
			refused(t, api.ErrValue)(q.Push(w))
		}
		for order := range api.MaxOrder + 1 {
			some := of(t, order, ints(1, 2, 1))
			check(t, must(t)(pairing.Meld(q, some)), 0, ints(1, 1, 2))
			check(t, must(t)(pairing.Meld(some, q)), order, ints(1, 1, 2))
		}
		for _, other := range []*pairing.Queue{nil, {}} {
			check(t, must(t)(pairing.Meld(q, other)), 0, nil)
		}
	}
}

// R1, R4: values that are not right; of a full queue they come ahead of ErrLong.
func TestWrongValues(t *testing.T) {
	full := of(t, 3, sample.Numbers(api.MaxLen))
	for _, w := range sample.Wrongs() {
		for order := range api.MaxOrder + 1 {
			q := of(t, order, ints(1, 2))
			refused(t, api.ErrValue)(q.Push(w))
			check(t, q, order, ints(1, 2))
			for _, l := range [][]api.Value{{w}, {num(1), num(2), w}, {w, num(1)}, {w, w}, {num(2), num(2), num(1), w}} {
				refused(t, api.ErrValue)(pairing.Of(order, l))
			}
		}
		refused(t, api.ErrValue)(full.Push(w))
	}
}

// R1: the order ahead of the list, its length ahead of its members.
func TestWhichErrorComesFirst(t *testing.T) {
	long := slices.Repeat(ints(1), api.MaxLen+1)
	wrong := []api.Value{sample.Bool(2)}
	for _, order := range sample.Beyond(api.MaxOrder) {
		for _, l := range [][]api.Value{nil, {}, ints(1), wrong, long, slices.Concat(long, wrong)} {
			refused(t, api.ErrKind)(pairing.Of(order, l))
		}
	}
	for order := range api.MaxOrder + 1 {
		for _, l := range [][]api.Value{long, slices.Concat(wrong, long), slices.Concat(long[1:], wrong)} {
			refused(t, api.ErrLong)(pairing.Of(order, l))
		}
		refused(t, api.ErrValue)(pairing.Of(order, slices.Concat(long[2:], wrong)))
	}
}

// nested are items that hold lists, one of them twice.
func nested() []api.Value {
	return []api.Value{list(num(1), list(num(2))), sample.Map(num(1), list(num(5))), sample.Set(num(3), list(num(4))), list(num(1), list(num(2)))}
}

// R3: what is handed in stays as it is, and is not kept.
func TestArgumentsStay(t *testing.T) {
	for order := range api.MaxOrder + 1 {
		l := sample.RoomyAll(nested())
		q, one := of(t, order, l), pushed(t, order, l)
		both := must(t)(pairing.Meld(q, one))
		refused(t, api.ErrKind)(pairing.Of(-1, l))
		if !sample.SameAll(l, nested()) || !sample.RoomKept(l) {
			t.Errorf("order %d: changed: %v", order, l)
		}
		sample.Spoil(l)
		check(t, q, order, nested())
		check(t, one, order, nested())
		check(t, both, order, slices.Concat(nested(), nested()))
	}
	l := sample.RoomyAll(append(nested(), sample.Bool(2)))
	refused(t, api.ErrValue)(pairing.Of(1, l))
	if !sample.SameAll(l, append(nested(), sample.Bool(2))) || !sample.RoomKept(l) {
		t.Errorf("changed: %v", l)
	}
}

// spoil writes over all that a queue tells.
func spoil(q *pairing.Queue) {
	sample.Spoil(q.Sorted())
	for q.Len() > 0 {
		first, _ := q.Min()
		sample.Spoil(first.Items)
		rest, x, _ := q.Pop()
		sample.Spoil(x.Items)
		q = rest
	}
}

// R3: writing over an answer changes nothing that is told, of that queue, of another version, of what was made of two.
func TestAnswersAreNew(t *testing.T) {
	for order := range api.MaxOrder + 1 {
		q := of(t, order, nested())
		line := model.InLine(order, nested())
		rest, first, _ := q.Pop()
		other := must(t)(q.Push(num(1)))
		turned := must(t)(pairing.Meld(of(t, api.MaxOrder-order, nil), q))
		queues := []version{
			{q, nested()}, {other, append(nested(), num(1))}, {rest, line[1:]}, {turned, nested()},
			{must(t)(pairing.Meld(rest, other)), slices.Concat(line[1:], nested(), ints(1))}, {must(t)(pairing.Meld(q, q)), slices.Concat(nested(), nested())},
		}
		sorted, again := q.Sorted(), q.Sorted()
		for _, told := range queues {
			spoil(told.q)
		}
		sample.Spoil(again)
		for _, told := range queues {
			check(t, told.q, told.q.Order(), told.plain)
		}
		if !sample.SameAll(sorted, line) || !sample.Same(first, line[0]) {
			t.Errorf("order %d: answers share memory: %v, %v", order, sorted, first)
		}
	}
}

// R3: items that share memory when they are handed in, or are told twice, share none in one answer.
func TestListsOfOneAnswer(t *testing.T) {
	part := list(num(1), list(num(2)))
	for order := range api.MaxOrder + 1 {
		q := of(t, order, []api.Value{part, part})
		both := must(t)(pairing.Meld(q, q))
		l := both.Sorted()
		sample.Spoil(l[0].Items)
		if !sample.SameAll(l[1:], []api.Value{part, part, part}) {
			t.Errorf("order %d: Sorted: %v", order, l)
		}
		check(t, both, order, []api.Value{part, part, part, part})
	}
}

// R3
func TestTextsAreNew(t *testing.T) {
	long := strings.Repeat("a", api.MaxText)
	seen := []*byte{unsafe.StringData(long)}
	look := func(v api.Value) {
		t.Helper()
		at := unsafe.StringData(v.Text)
		if v.Text != long || slices.Contains(seen, at) {
			t.Errorf("the text is not new memory: %q", v.Text)
		}
		seen = append(seen, at)
	}
	made, one := of(t, 0, []api.Value{str(long)}), pushed(t, 0, []api.Value{str(long)})
	for _, told := range []*pairing.Queue{made, one, must(t)(pairing.Meld(made, one)), must(t)(pairing.Meld(of(t, 1, nil), made)), must(t)(pairing.Meld(made, made))} {
		for range 2 {
			for _, x := range told.Sorted() {
				look(x)
			}
			first, _ := told.Min()
			_, x, _ := told.Pop()
			look(first)
			look(x)
		}
	}
}

// R2: items that differ in nil and empty lists alone are the same.
func TestNilAndEmptyLists(t *testing.T) {
	for _, v := range []api.Value{{Kind: api.VList}, {Kind: api.VSet}, {Kind: api.VMap}, {}, num(3), str("a")} {
		w := v
		w.Items = []api.Value{}
		for order := range api.MaxOrder + 1 {
			check(t, of(t, order, []api.Value{v, w}), order, []api.Value{v, v})
			check(t, pushed(t, order, []api.Value{w, v, w}), order, []api.Value{v, w, v})
		}
	}
}
