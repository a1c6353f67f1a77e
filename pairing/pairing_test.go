package pairing_test

import (
	"fmt"
	"slices"
	"testing"

	"spinney/api"
	"spinney/hash"
	"spinney/model"
	"spinney/pairing"
	"spinney/sample"
	"spinney/value"
)

func none() api.Value                   { return api.Value{} }
func num(n int64) api.Value             { return sample.Num(n) }
func str(s string) api.Value            { return sample.Str(s) }
func list(items ...api.Value) api.Value { return sample.List(items...) }
func lines() [][]api.Value              { return sample.Lines() }

// ints are numbers, one by one.
func ints(l ...int64) []api.Value {
	var out []api.Value
	for _, n := range l {
		out = append(out, num(n))
	}
	return out
}

func reversed[T any](l []T) []T {
	out := slices.Clone(l)
	slices.Reverse(out)
	return out
}

// short is what a failing test shows of something that may be long.
func short(x any) string {
	s := fmt.Sprint(x)
	return s[:min(len(s), 200)]
}

// must is a queue that came without an error.
func must(t *testing.T) func(*pairing.Queue, api.Errno) *pairing.Queue {
	return func(q *pairing.Queue, e api.Errno) *pairing.Queue {
		t.Helper()
		if q == nil || e != api.OK {
			t.Fatalf("no queue: %v", e)
		}
		return q
	}
}

// of is a queue of items.
func of(t *testing.T, order int, l []api.Value) *pairing.Queue {
	t.Helper()
	return must(t)(pairing.Of(order, l))
}

// pushed is a queue of items that came one by one.
func pushed(t *testing.T, order int, l []api.Value) *pairing.Queue {
	t.Helper()
	q := must(t)(pairing.New(order))
	for _, x := range l {
		q = must(t)(q.Push(x))
	}
	return q
}

// refused is for what must have been no queue, but an error.
func refused(t *testing.T, want api.Errno) func(*pairing.Queue, api.Errno) {
	return func(q *pairing.Queue, e api.Errno) {
		t.Helper()
		if q != nil || e != want {
			t.Fatalf("%v, want %v", e, want)
		}
	}
}

// check asks a queue everything, against a plain list of its items.
func check(t *testing.T, q *pairing.Queue, order int, plain []api.Value) {
	t.Helper()
	if wrong := model.WrongOfQueue(q, order, plain); q == nil || wrong != "" {
		t.Fatalf("%s is wrong: %s of order %d, want %s of order %d", wrong, short(q.Sorted()), q.Order(), short(plain), order)
	}
}

// checkEmpty asks a queue for the errors of one without an item.
func checkEmpty(t *testing.T, q *pairing.Queue) {
	t.Helper()
	if x, e := q.Min(); e != api.ErrEmpty || !sample.Same(x, none()) {
		t.Errorf("Min of none: %v, %v", x, e)
	}
	if rest, x, e := q.Pop(); rest != nil || e != api.ErrEmpty || !sample.Same(x, none()) {
		t.Errorf("Pop of none: %v, %v", x, e)
	}
}

// checkSorted asks for items in an order that was worked out by hand, all at once and one by one.
func checkSorted(t *testing.T, q *pairing.Queue, want []api.Value) {
	t.Helper()
	if l := q.Sorted(); !sample.SameAll(l, want) || q.Len() != len(want) {
		t.Fatalf("Sorted: %s, want %s", short(l), short(want))
	}
	for _, x := range want {
		first, e := q.Min()
		rest, y, wrong := q.Pop()
		if e != api.OK || wrong != api.OK || !sample.Same(first, x) || !sample.Same(y, x) {
			t.Fatalf("Min, Pop: %s, %v, %s, %v, want %s", short(first), e, short(y), wrong, short(x))
		}
		q = rest
	}
	checkEmpty(t, q)
}

// The chapter's example, and example 8 of the whole.
func TestExamples(t *testing.T) {
	q := of(t, 0, ints(3, 1, 2, 1))
	checkSorted(t, q, ints(1, 1, 2, 3))
	if x, e := q.Min(); e != api.OK || x.Num != 1 {
		t.Errorf("Min: %v, %v", x, e)
	}
	checkSorted(t, of(t, 5, ints(-2, 1, 0)), ints(0, 1, -2))
}

// 19.1
func TestNew(t *testing.T) {
	for order := range api.MaxOrder + 1 {
		q := must(t)(pairing.New(order))
		check(t, q, order, nil)
		checkEmpty(t, q)
	}
	for _, order := range sample.Beyond(api.MaxOrder) {
		refused(t, api.ErrKind)(pairing.New(order))
	}
}

// 19.1, 19.2: each order by hand, whichever way the queue was made.
func TestOrdersByHand(t *testing.T) {
	for order, line := range lines() {
		s := sample.New(uint64(order))
		both := must(t)(pairing.Meld(of(t, order, line[5:]), of(t, 0, reversed(line[:5]))))
		for _, q := range []*pairing.Queue{
			of(t, order, line), of(t, order, reversed(line)), of(t, order, sample.Shuffled(s, line)),
			pushed(t, order, line), pushed(t, order, reversed(line)), pushed(t, order, sample.Shuffled(s, line)), both,
		} {
			checkSorted(t, q, line)
			check(t, q, order, line)
		}
	}
}

// 19.1: lists of all lengths; items that stand several times.
func TestOf(t *testing.T) {
	s := sample.New(1)
	for order := range api.MaxOrder + 1 {
		check(t, of(t, order, nil), order, nil)
		check(t, of(t, order, []api.Value{}), order, nil)
		check(t, of(t, order, ints(7)), order, ints(7))
		check(t, of(t, order, ints(7, 7, 7)), order, ints(7, 7, 7))
		checkSorted(t, of(t, order, ints(7, 7, 7)), ints(7, 7, 7))
		check(t, of(t, order, ints(2, 1, 2, 3, 1)), order, ints(1, 1, 2, 2, 3))
		for n := range 70 {
			l := s.Values(n, 2)
			check(t, of(t, order, l), order, l)
			check(t, pushed(t, order, l), order, l)
		}
	}
}

// 19.2: one item, and the same one again.
func TestOneItem(t *testing.T) {
	for order, line := range lines() {
		for _, x := range line {
			q := must(t)(must(t)(pairing.New(order)).Push(x))
			checkSorted(t, q, []api.Value{x})
			twice := must(t)(q.Push(x))
			checkSorted(t, twice, []api.Value{x, x})
			once, y, e := twice.Pop()
			if e != api.OK || !sample.Same(x, y) {
				t.Fatalf("Pop: %v, %v", y, e)
			}
			check(t, once, order, []api.Value{x})
			check(t, twice, order, []api.Value{x, x})
		}
	}
}

// version is a queue, and what it told when it was made.
type version struct {
	q     *pairing.Queue
	plain []api.Value
}

// changed is another version, by one of the queue's own calls.
func (r version) changed(t *testing.T, s *sample.Source, order int, other version, stock []api.Value) version {
	t.Helper()
	switch s.Below(6) {
	case 0, 1, 2:
		x := stock[s.Below(len(stock))]
		return version{must(t)(r.q.Push(x)), slices.Concat(r.plain, []api.Value{x})}
	case 3:
		if len(r.plain)+len(other.plain) < 100 {
			return version{must(t)(pairing.Meld(r.q, other.q)), slices.Concat(r.plain, other.plain)}
		}
	}
	if len(r.plain) == 0 {
		checkEmpty(t, r.q)
		return r
	}
	rest, x, e := r.q.Pop()
	line := model.InLine(order, r.plain)
	if e != api.OK || !sample.Same(x, line[0]) {
		t.Fatalf("Pop: %s, %v, want %s", short(x), e, short(line[0]))
	}
	return version{rest, line[1:]}
}

// 19.2, 19.3, P2, P3: items come and go, of any older version; every version tells for ever what it told.
func TestVersions(t *testing.T) {
	for order, line := range lines() {
		for seed := range uint64(3) {
			s := sample.New(seed)
			stock := slices.Concat(line, s.Values(10, 2))
			now := version{must(t)(pairing.New(order)), nil}
			versions := []version{now}
			for turn := range 150 {
				if turn%3 == 0 {
					now = versions[s.Below(len(versions))]
				}
				now = now.changed(t, s, order, versions[s.Below(len(versions))], stock)
				check(t, now.q, order, now.plain)
				versions = append(versions, now)
			}
			for _, v := range versions {
				check(t, v.q, order, v.plain)
			}
		}
	}
}

// 19.3: long chains of items that come and go, with many there and with few; Pop tells the least of a plain list at each turn.
func TestLongChains(t *testing.T) {
	for _, most := range []int{3, 50, 2000} {
		s := sample.New(uint64(most))
		q := must(t)(pairing.New(0))
		var plain []int64
		for turn := range 6000 {
			// Phases in which more come than go, and the other way round.
			if s.Below(4) < 1+turn/1500%2*2 {
				n := int64(s.Below(most))
				q = must(t)(q.Push(num(n)))
				at, _ := slices.BinarySearch(plain, n)
				plain = slices.Insert(plain, at, n)
			} else if len(plain) > 0 {
				rest, x, e := q.Pop()
				if e != api.OK || x.Num != plain[0] {
					t.Fatalf("turn %d: %v, %v, want %d", turn, x, e, plain[0])
				}
				q, plain = rest, plain[1:]
			}
			if q.Len() != len(plain) {
				t.Fatalf("turn %d: %d items, want %d", turn, q.Len(), len(plain))
			}
		}
		checkSorted(t, q, ints(plain...))
	}
}

// 19.3: the old queue stays behind Push, Pop and Meld, again and again from the same one.
func TestTheOldOneStays(t *testing.T) {
	for order, line := range lines() {
		for _, q := range []*pairing.Queue{of(t, order, line), pushed(t, order, line), pushed(t, order, reversed(line))} {
			other := of(t, 0, ints(5, 6))
			for range 5 {
				more := must(t)(q.Push(num(77)))
				rest, x, e := q.Pop()
				if e != api.OK || !sample.Same(x, line[0]) {
					t.Fatalf("Pop: %v, %v", x, e)
				}
				both := must(t)(pairing.Meld(q, other))
				check(t, more, order, slices.Concat(line, ints(77)))
				check(t, rest, order, line[1:])
				check(t, both, order, slices.Concat(line, ints(5, 6)))
				check(t, q, order, line)
				check(t, other, 0, ints(5, 6))
			}
		}
	}
}

// P5: an item has one hash, whatever queue it comes from and however it was made.
func TestOneHash(t *testing.T) {
	s := sample.New(5)
	for range 40 {
		l := s.Values(1+s.Below(20), 2)
		set, _ := value.Set(l)
		want, _ := hash.Full(set)
		for order := range api.MaxOrder + 1 {
			for _, q := range []*pairing.Queue{of(t, order, l), pushed(t, order, sample.Shuffled(s, l))} {
				told, _ := value.Set(q.Sorted())
				if h, e := hash.Full(told); h != want || e != api.OK {
					t.Fatalf("order %d: %d, %v, want %d", order, h, e, want)
				}
				_, x, _ := q.Pop()
				first := model.InLine(order, l)[0]
				got, _ := hash.Full(x)
				if h, _ := hash.Full(first); h != got {
					t.Fatalf("order %d: %s: %d, want %d", order, short(x), got, h)
				}
			}
		}
	}
}
