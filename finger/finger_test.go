package finger_test

import (
	"fmt"
	"math"
	"slices"
	"testing"

	"spinney/api"
	"spinney/finger"
	"spinney/model"
	"spinney/sample"
)

func none() api.Value                   { return api.Value{} }
func num(n int64) api.Value             { return sample.Num(n) }
func str(s string) api.Value            { return sample.Str(s) }
func list(items ...api.Value) api.Value { return sample.List(items...) }

// short is what a failing test shows of something that may be long.
func short(x any) string {
	s := fmt.Sprint(x)
	return s[:min(len(s), 200)]
}

// must is a deque that came without an error.
func must(t *testing.T) func(*finger.Deque, api.Errno) *finger.Deque {
	return func(d *finger.Deque, e api.Errno) *finger.Deque {
		t.Helper()
		if d == nil || e != api.OK {
			t.Fatalf("no deque: %v", e)
		}
		return d
	}
}

func of(t *testing.T, l []api.Value) *finger.Deque {
	t.Helper()
	return must(t)(finger.Of(l))
}

// check asks a deque everything, against plain lists, one behind the other.
func check(t *testing.T, d *finger.Deque, plain ...[]api.Value) {
	t.Helper()
	want := slices.Concat(plain...)
	if wrong := model.WrongOfDeque(d, want); d == nil || wrong != "" {
		t.Fatalf("%s is wrong: %s of %d levels, want %s", wrong, short(d.Items()), d.Height(), short(want))
	}
}

// refused is for what must have been no deque, but an error.
func refused(t *testing.T, want api.Errno) func(*finger.Deque, api.Errno) {
	return func(d *finger.Deque, e api.Errno) {
		t.Helper()
		if d != nil || e != want {
			t.Fatalf("%v, want %v", e, want)
		}
	}
}

// popped is for what was taken from an end: the item that must have been there, and the deque that is left.
func popped(t *testing.T, want api.Value) func(*finger.Deque, api.Value, api.Errno) *finger.Deque {
	return func(d *finger.Deque, x api.Value, e api.Errno) *finger.Deque {
		t.Helper()
		if d == nil || e != api.OK || !sample.Same(x, want) {
			t.Fatalf("%s, %v, want %s", short(x), e, short(want))
		}
		return d
	}
}

// lengths are those around which ends and levels are full, up to the greatest one.
func lengths() []int {
	return []int{0, 1, 2, 3, 4, 5, 7, 8, 9, 10, 14, 15, 16, 17, 25, 26, 27, 31, 32, 33, 34, 50, 80, 104, 105, 500, 1000, 1023, 1024, 1025, 32768, api.MaxLen - 1, api.MaxLen}
}

// nearby are places of a deque of n items, its first and last ones among them.
func nearby(n int) []int {
	var out []int
	for _, i := range []int{0, 1, 2, 3, 4, 5, 6, 12, 13, n / 3, n / 2, n - 13, n - 6, n - 5, n - 4, n - 3, n - 2, n - 1} {
		if i >= 0 && i < n && !slices.Contains(out, i) {
			out = append(out, i)
		}
	}
	return out
}

// noPlaces are numbers that are no places of a deque of n items.
func noPlaces(n int) []int {
	return []int{-1, -2, n, n + 1, -n - 1, 1 << 32, -1 << 32, math.MinInt, math.MaxInt}
}

// replaced is a plain list with another item in a place.
func replaced(l []api.Value, i int, x api.Value) []api.Value {
	out := slices.Clone(l)
	out[i] = x
	return out
}

// turned is a plain list the other way round.
func turned(l []api.Value) []api.Value {
	out := slices.Clone(l)
	slices.Reverse(out)
	return out
}

// The chapter's example.
func TestExample(t *testing.T) {
	one := must(t)(finger.New().Front(num(1)))
	two := must(t)(one.Back(num(2)))
	d := must(t)(two.Front(num(0)))
	check(t, d, sample.Numbers(3))
	check(t, popped(t, num(2))(d.PopBack()), sample.Numbers(2))
	check(t, one, []api.Value{num(1)})
	check(t, two, []api.Value{num(1), num(2)})
	check(t, d, sample.Numbers(3))
}

// 17.1
func TestNew(t *testing.T) {
	d := finger.New()
	check(t, d)
	if d.Height() != 0 {
		t.Errorf("Height: %d", d.Height())
	}
	must(t)(d.Front(num(1)))
	must(t)(d.Back(num(1)))
	check(t, d)
	check(t, finger.New())
}

// 17.1, 17.3
func TestOf(t *testing.T) {
	check(t, of(t, nil))
	check(t, of(t, []api.Value{}))
	for _, n := range lengths() {
		check(t, of(t, sample.Numbers(n)), sample.Numbers(n))
	}
	for n := range 400 {
		check(t, of(t, sample.Numbers(n)), sample.Numbers(n))
	}
	s := sample.New(1)
	for range 50 {
		l := s.Values(s.Below(100), 3)
		check(t, of(t, l), l)
	}
}

// 17.1, R1: the length first, then the first item that is not right.
func TestOfWrong(t *testing.T) {
	for _, x := range sample.Wrongs() {
		for _, l := range [][]api.Value{{x}, {num(1), x}, {x, num(1)}, append(sample.Numbers(40), x), append(sample.Numbers(api.MaxLen-1), x)} {
			refused(t, api.ErrValue)(finger.Of(l))
		}
		refused(t, api.ErrLong)(finger.Of(append(sample.Numbers(api.MaxLen), x)))
	}
	refused(t, api.ErrLong)(finger.Of(sample.Numbers(api.MaxLen + 1)))
	refused(t, api.ErrLong)(finger.Of(make([]api.Value, 1<<20)))
}

// 17.1: the places next to the first and the last one, and places far away; of Set the item is looked at first.
func TestOutOfRange(t *testing.T) {
	for _, n := range []int{0, 1, 2, 8, 9, 33, 1024} {
		d := of(t, sample.Numbers(n))
		for _, i := range noPlaces(n) {
			if x, e := d.At(i); e != api.ErrRange || !sample.Same(x, none()) {
				t.Errorf("of %d: At(%d): %v, %v", n, i, x, e)
			}
			refused(t, api.ErrRange)(d.Set(i, num(1)))
			refused(t, api.ErrValue)(d.Set(i, sample.Bool(2)))
		}
		check(t, d, sample.Numbers(n))
	}
}

// 17.1
func TestSet(t *testing.T) {
	for _, n := range lengths() {
		d, plain := of(t, sample.Numbers(n)), sample.Numbers(n)
		places := nearby(n)
		if n > 2000 {
			places = []int{0, n / 2, n - 1}
		}
		for k, i := range places {
			x := list(num(int64(k)), str("x"))
			check(t, must(t)(d.Set(i, x)), replaced(plain, i, x))
			// Set again of what was set, in another place and in the same one.
			d, plain = must(t)(d.Set(i, num(-1))), replaced(plain, i, num(-1))
			check(t, must(t)(d.Set(i, num(-2))), replaced(plain, i, num(-2)))
		}
		check(t, d, plain)
	}
	for _, n := range []int{1, 8, 9, 70, 200} {
		d := of(t, sample.Numbers(n))
		for i := range n {
			check(t, must(t)(d.Set(i, none())), replaced(sample.Numbers(n), i, none()))
			check(t, must(t)(d.Set(i, num(int64(i)))), sample.Numbers(n))
		}
		check(t, d, sample.Numbers(n))
	}
}

// 17.1, 17.2, R1: what is wrong with the item comes ahead of all else; nothing has changed.
func TestWrongItems(t *testing.T) {
	full := of(t, sample.Numbers(api.MaxLen))
	for _, d := range []*finger.Deque{nil, finger.New(), of(t, sample.Numbers(1)), of(t, sample.Numbers(33)), full} {
		for _, x := range sample.Wrongs() {
			refused(t, api.ErrValue)(d.Front(x))
			refused(t, api.ErrValue)(d.Back(x))
			for _, i := range []int{0, -1, d.Len(), math.MaxInt, math.MinInt} {
				refused(t, api.ErrValue)(d.Set(i, x))
			}
		}
	}
	check(t, full, sample.Numbers(api.MaxLen))
}

// 17.2: MaxLen items, and one more.
func TestLong(t *testing.T) {
	almost := of(t, sample.Numbers(api.MaxLen-1))
	for _, d := range []*finger.Deque{must(t)(almost.Front(num(-1))), must(t)(almost.Back(num(-1))), of(t, sample.Numbers(api.MaxLen))} {
		plain := d.Items()
		if d.Len() != api.MaxLen {
			t.Errorf("Len: %d", d.Len())
		}
		refused(t, api.ErrLong)(d.Front(num(1)))
		refused(t, api.ErrLong)(d.Back(num(1)))
		check(t, must(t)(d.Set(7, none())), replaced(plain, 7, none()))
		less := popped(t, plain[0])(d.PopFront())
		check(t, must(t)(less.Back(none())), plain[1:], []api.Value{none()})
		check(t, d, plain)
	}
	check(t, almost, sample.Numbers(api.MaxLen-1))
}

// 17.2, R4
func TestPopOfNone(t *testing.T) {
	one := of(t, sample.Numbers(1))
	for _, d := range []*finger.Deque{nil, {}, finger.New(), of(t, nil), popped(t, num(0))(one.PopFront()), popped(t, num(0))(one.PopBack())} {
		if w, x, e := d.PopFront(); w != nil || !sample.Same(x, none()) || e != api.ErrEmpty {
			t.Errorf("PopFront: %v, %v, %v", w, x, e)
		}
		if w, x, e := d.PopBack(); w != nil || !sample.Same(x, none()) || e != api.ErrEmpty {
			t.Errorf("PopBack: %v, %v, %v", w, x, e)
		}
		if wrong := model.WrongOfDeque(d, nil); wrong != "" {
			t.Errorf("%s", wrong)
		}
	}
	check(t, one, sample.Numbers(1))
}

// 17.2: put one by one at an end, and each version looked at; then taken away at either end.
func TestOneByOne(t *testing.T) {
	const most = 300
	plain := sample.Numbers(most)
	back := turned(plain)
	ahead, behind := []*finger.Deque{finger.New()}, []*finger.Deque{finger.New()}
	for n, x := range plain {
		ahead = append(ahead, must(t)(ahead[n].Front(x)))
		behind = append(behind, must(t)(behind[n].Back(x)))
	}
	for n := range most + 1 {
		check(t, ahead[n], back[most-n:])
		check(t, behind[n], plain[:n])
		a, b, c, d := ahead[n], ahead[n], behind[n], behind[n]
		for k := range n {
			first, last := num(int64(k)), num(int64(n-1-k))
			a, b = popped(t, last)(a.PopFront()), popped(t, first)(b.PopBack())
			c, d = popped(t, first)(c.PopFront()), popped(t, last)(d.PopBack())
		}
		for _, gone := range []*finger.Deque{a, b, c, d} {
			check(t, gone)
		}
	}
	for n := range most + 1 {
		check(t, ahead[n], back[most-n:])
		check(t, behind[n], plain[:n])
	}
}
