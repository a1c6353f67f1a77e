package split_test

import (
	"fmt"
	"math"
	"slices"
	"testing"

	"spinney/api"
	"spinney/finger"
	"spinney/model"
	"spinney/sample"
	"spinney/split"
)

func none() api.Value                   { return api.Value{} }
func num(n int64) api.Value             { return sample.Num(n) }
func str(s string) api.Value            { return sample.Str(s) }
func list(items ...api.Value) api.Value { return sample.List(items...) }

// ints are numbers, one by one.
func ints(l ...int64) []api.Value {
	var out []api.Value
	for _, n := range l {
		out = append(out, num(n))
	}
	return out
}

// short is what a failing test shows of something that may be long.
func short(x any) string {
	s := fmt.Sprint(x)
	return s[:min(len(s), 200)]
}

// must is a deque that came without an error.
func must(t *testing.T) func(*finger.Deque, api.Errno) *finger.Deque {
	return func(d *finger.Deque, e api.Errno) *finger.Deque {
		t.Helper()
		if d == nil || e != api.OK {
			t.Fatalf("no deque: %v", e)
		}
		return d
	}
}

func of(t *testing.T, l []api.Value) *finger.Deque {
	t.Helper()
	return must(t)(finger.Of(l))
}

// check asks a deque everything, against plain lists, one behind the other.
func check(t *testing.T, d *finger.Deque, plain ...[]api.Value) {
	t.Helper()
	want := slices.Concat(plain...)
	if wrong := model.WrongOfDeque(d, want); d == nil || wrong != "" {
		t.Fatalf("%s is wrong: %s of %d levels, want %s", wrong, short(d.Items()), d.Height(), short(want))
	}
	if w := split.Weight(d); w != model.Weight(want) {
		t.Fatalf("Weight of %s: %d, want %d", short(want), w, model.Weight(want))
	}
}

// refused is for what must have been no deque, but an error.
func refused(t *testing.T, want api.Errno) func(*finger.Deque, api.Errno) {
	return func(d *finger.Deque, e api.Errno) {
		t.Helper()
		if d != nil || e != want {
			t.Fatalf("%v, want %v", e, want)
		}
	}
}

// checkCut asks for both parts of a deque that is cut.
func checkCut(t *testing.T, d *finger.Deque, at int, plain []api.Value) {
	t.Helper()
	head, tail, e := split.Cut(d, at)
	if e != api.OK {
		t.Fatalf("Cut(%d): %v", at, e)
	}
	check(t, head, plain[:at])
	check(t, tail, plain[at:])
}

// checkRemove asks for a deque without an item, and that one.
func checkRemove(t *testing.T, d *finger.Deque, at int, plain []api.Value) {
	t.Helper()
	left, x, e := split.Remove(d, at)
	if e != api.OK || !sample.Same(x, plain[at]) {
		t.Fatalf("Remove(%d): %s, %v", at, short(x), e)
	}
	check(t, left, plain[:at], plain[at+1:])
}

// numbered are n numbers from one on, so that deques are told apart.
func numbered(from, n int) []api.Value {
	var out []api.Value
	for i := range n {
		out = append(out, num(int64(from+i)))
	}
	return out
}

// turned is a plain list the other way round.
func turned(l []api.Value) []api.Value {
	out := slices.Clone(l)
	slices.Reverse(out)
	return out
}

// lengths are those around which ends and levels are full.
func lengths() []int {
	return []int{0, 1, 2, 3, 4, 5, 8, 9, 10, 17, 26, 32, 33, 80, 105, 1000, 1025}
}

// pieced is a deque of a plain list, put together from pieces of many lengths and from single items at both ends, so that its trees are of all shapes.
func pieced(t *testing.T, s *sample.Source, l []api.Value) *finger.Deque {
	t.Helper()
	from := s.Below(len(l) + 1)
	d := finger.New()
	for to := from; from > 0 || to < len(l); {
		switch n := 1 + s.Below(30); {
		case from > 0 && n < 8:
			from--
			d = must(t)(d.Front(l[from]))
		case to < len(l) && n < 16:
			d = must(t)(d.Back(l[to]))
			to++
		case from >= n:
			d = must(t)(split.Concat(of(t, l[from-n:from]), d))
			from -= n
		case to+n <= len(l):
			d = must(t)(split.Concat(d, of(t, l[to:to+n])))
			to += n
		}
	}
	return d
}

// ends are ends of a deque of n items, its first and last ones among them.
func ends(n int) []int {
	var out []int
	for _, i := range []int{0, 1, 2, 3, 4, 5, 12, n / 3, n / 2, n - 12, n - 5, n - 4, n - 3, n - 2, n - 1, n} {
		if i >= 0 && i <= n && !slices.Contains(out, i) {
			out = append(out, i)
		}
	}
	return out
}

// noEnds are numbers that are no ends of a deque of n items.
func noEnds(n int) []int {
	return []int{-1, -2, n + 1, n + 2, -n - 1, 1 << 32, -1 << 32, math.MinInt, math.MaxInt}
}

// The chapter's examples.
func TestExamples(t *testing.T) {
	checkCut(t, of(t, ints(1, 2, 3)), 1, ints(1, 2, 3))
	if at, there, e := split.Find(of(t, ints(2, 0, 3)), 2); at != 2 || !there || e != api.OK {
		t.Errorf("Find: %d, %v, %v", at, there, e)
	}
	check(t, split.Rotate(of(t, ints(1, 2, 3)), -1), ints(3, 1, 2))
}

// 18.1
func TestConcat(t *testing.T) {
	s := sample.New(1)
	for _, n := range lengths() {
		for _, m := range lengths() {
			a, b := numbered(0, n), numbered(10000, m)
			d, w := of(t, a), pieced(t, s, b)
			check(t, must(t)(split.Concat(d, w)), a, b)
			check(t, must(t)(split.Concat(w, d)), b, a)
			check(t, d, a)
			check(t, w, b)
		}
	}
}

// 18.1: of all lengths up to some levels.
func TestConcatOfAllLengths(t *testing.T) {
	for n := range 50 {
		for m := range 50 {
			a, b := numbered(0, n), numbered(100, m)
			check(t, must(t)(split.Concat(of(t, a), of(t, b))), a, b)
		}
	}
}

// 18.1: a deque joined with itself, again and again.
func TestConcatWithItself(t *testing.T) {
	for _, n := range []int{1, 3, 8, 9, 33, 1025} {
		plain := numbered(0, n)
		d := of(t, plain)
		for len(plain)*2 <= api.MaxLen {
			d, plain = must(t)(split.Concat(d, d)), slices.Concat(plain, plain)
			check(t, d, plain)
		}
		if len(plain)*2 > api.MaxLen {
			refused(t, api.ErrLong)(split.Concat(d, d))
		}
	}
}

// 18.1: MaxLen items, and one more.
func TestConcatLong(t *testing.T) {
	most := numbered(0, api.MaxLen)
	full, one := of(t, most), of(t, ints(1))
	for _, n := range []int{0, 1, 33, 40000, api.MaxLen - 1, api.MaxLen} {
		a, b := of(t, most[:n]), of(t, most[n:])
		both := must(t)(split.Concat(a, b))
		check(t, both, most)
		refused(t, api.ErrLong)(split.Concat(both, one))
		refused(t, api.ErrLong)(split.Concat(one, both))
	}
	refused(t, api.ErrLong)(split.Concat(full, full))
	check(t, must(t)(split.Concat(full, nil)), most)
	check(t, must(t)(split.Concat(nil, full)), most)
	check(t, full, most)
}

// 18.1
func TestCut(t *testing.T) {
	s := sample.New(1)
	for _, n := range lengths() {
		plain := numbered(0, n)
		for _, d := range []*finger.Deque{of(t, plain), pieced(t, s, plain)} {
			for _, at := range ends(n) {
				checkCut(t, d, at, plain)
			}
			check(t, d, plain)
		}
	}
	plain := numbered(0, 400)
	for _, d := range []*finger.Deque{of(t, plain), pieced(t, s, plain)} {
		for at := range 401 {
			checkCut(t, d, at, plain)
		}
	}
	most := numbered(0, api.MaxLen)
	full := of(t, most)
	for _, at := range []int{0, 1, 30000, api.MaxLen - 1, api.MaxLen} {
		checkCut(t, full, at, most)
	}
}

// 18.1
func TestSlice(t *testing.T) {
	s := sample.New(1)
	for _, n := range lengths() {
		plain := numbered(0, n)
		for _, d := range []*finger.Deque{of(t, plain), pieced(t, s, plain)} {
			for _, from := range ends(n) {
				for _, to := range ends(n) {
					if from > to {
						refused(t, api.ErrRange)(split.Slice(d, from, to))
						continue
					}
					check(t, must(t)(split.Slice(d, from, to)), plain[from:to])
				}
			}
			check(t, d, plain)
		}
	}
}

// 18.1: all ends of a deque, and those next to them outside; from equal to to, and behind it.
func TestSliceAtAllEnds(t *testing.T) {
	plain := numbered(0, 60)
	d := of(t, plain)
	for from := -1; from <= 61; from++ {
		for to := -1; to <= 61; to++ {
			if from < 0 || to > 60 || from > to {
				refused(t, api.ErrRange)(split.Slice(d, from, to))
				continue
			}
			check(t, must(t)(split.Slice(d, from, to)), plain[from:to])
		}
	}
}

// 18.1, 18.2: ends and places that are none, and R4 beside them.
func TestOutOfRange(t *testing.T) {
	for _, n := range []int{0, 1, 2, 8, 9, 33, 1025} {
		d := of(t, numbered(0, n))
		for _, at := range noEnds(n) {
			for _, good := range ends(n) {
				refused(t, api.ErrRange)(split.Slice(d, at, good))
				refused(t, api.ErrRange)(split.Slice(d, good, at))
			}
			refused(t, api.ErrRange)(split.Slice(d, at, at))
			refused(t, api.ErrRange)(split.Insert(d, at, num(1)))
			if a, b, e := split.Cut(d, at); a != nil || b != nil || e != api.ErrRange {
				t.Errorf("of %d: Cut(%d): %v, %v, %v", n, at, a, b, e)
			}
		}
		for _, at := range append(noEnds(n), n) {
			if w, x, e := split.Remove(d, at); w != nil || !sample.Same(x, none()) || e != api.ErrRange {
				t.Errorf("of %d: Remove(%d): %v, %v, %v", n, at, w, x, e)
			}
		}
		check(t, d, numbered(0, n))
	}
}

// 18.2
func TestInsert(t *testing.T) {
	s := sample.New(1)
	x := list(str("x"), num(1))
	for _, n := range lengths() {
		plain := numbered(0, n)
		for _, d := range []*finger.Deque{of(t, plain), pieced(t, s, plain)} {
			for _, at := range ends(n) {
				check(t, must(t)(split.Insert(d, at, x)), plain[:at], []api.Value{x}, plain[at:])
			}
			check(t, d, plain)
		}
	}
	plain := numbered(0, 200)
	d := pieced(t, s, plain)
	for at := range 201 {
		check(t, must(t)(split.Insert(d, at, x)), plain[:at], []api.Value{x}, plain[at:])
	}
}

// 18.2: which error comes first: of the item, of the place, of the length.
func TestInsertWrong(t *testing.T) {
	full := of(t, numbered(0, api.MaxLen))
	for _, d := range []*finger.Deque{nil, finger.New(), of(t, ints(1, 2)), full} {
		n := d.Len()
		for _, x := range sample.Wrongs() {
			for _, at := range []int{0, n, -1, n + 1, math.MinInt, math.MaxInt} {
				refused(t, api.ErrValue)(split.Insert(d, at, x))
			}
		}
	}
	for _, at := range noEnds(api.MaxLen) {
		refused(t, api.ErrRange)(split.Insert(full, at, num(1)))
	}
	for _, at := range ends(api.MaxLen) {
		refused(t, api.ErrLong)(split.Insert(full, at, num(1)))
	}
	check(t, full, numbered(0, api.MaxLen))
}

// 18.2: MaxLen items.
func TestInsertUpToTheMost(t *testing.T) {
	plain := numbered(0, api.MaxLen-1)
	d := of(t, plain)
	for _, at := range []int{0, 1, 30000, api.MaxLen - 1} {
		full := must(t)(split.Insert(d, at, none()))
		check(t, full, plain[:at], []api.Value{none()}, plain[at:])
		refused(t, api.ErrLong)(split.Insert(full, at, none()))
		checkRemove(t, full, at, slices.Insert(slices.Clone(plain), at, none()))
	}
}

// 18.2
func TestRemove(t *testing.T) {
	s := sample.New(1)
	for _, n := range lengths() {
		plain := numbered(0, n)
		for _, d := range []*finger.Deque{of(t, plain), pieced(t, s, plain)} {
			for _, at := range ends(n) {
				if at < n {
					checkRemove(t, d, at, plain)
				}
			}
			check(t, d, plain)
		}
	}
	plain := numbered(0, 200)
	d := pieced(t, s, plain)
	for at := range 200 {
		checkRemove(t, d, at, plain)
	}
}

// 18.4: by none, by fewer, by all and by more, either way round, by the least number and the greatest one.
func TestRotate(t *testing.T) {
	s := sample.New(1)
	for _, n := range lengths() {
		plain := numbered(0, n)
		if n == 0 {
			continue
		}
		for _, d := range []*finger.Deque{of(t, plain), pieced(t, s, plain)} {
			for _, k := range []int{0, 1, 2, n / 2, n - 1, n, n + 1, 2*n - 1, 2 * n, 5*n + 3, 1 << 40, math.MaxInt, math.MaxInt - 1} {
				at := k % n
				check(t, split.Rotate(d, k), plain[at:], plain[:at])
				back := (n - at) % n
				check(t, split.Rotate(d, -k), plain[back:], plain[:back])
			}
			// The least number is 2^63 below 0: that many back, or one less and one more.
			at := (n - (math.MaxInt%n+1)%n) % n
			check(t, split.Rotate(d, math.MinInt), plain[at:], plain[:at])
			check(t, d, plain)
		}
	}
	// By hand: -2^63 is 1 above a number that 3 divides, and so is 2^63 - 1.
	check(t, split.Rotate(of(t, ints(1, 2, 3)), math.MinInt), ints(2, 3, 1))
	check(t, split.Rotate(of(t, ints(1, 2, 3)), math.MaxInt), ints(2, 3, 1))
	check(t, split.Rotate(of(t, ints(1, 2, 3, 4)), math.MinInt), ints(1, 2, 3, 4))
}

// 18.4: all numbers about those of a few items, and MaxLen items.
func TestRotateByAll(t *testing.T) {
	for n := 1; n < 14; n++ {
		plain := numbered(0, n)
		d := of(t, plain)
		now := plain
		for k := range 3 * n {
			check(t, split.Rotate(d, k), now)
			check(t, split.Rotate(d, k-3*n), now)
			now = slices.Concat(now[1:], now[:1])
		}
	}
	most := numbered(0, api.MaxLen)
	full := of(t, most)
	check(t, split.Rotate(full, 12345), most[12345:], most[:12345])
	check(t, split.Rotate(full, -1), most[api.MaxLen-1:], most[:api.MaxLen-1])
	check(t, split.Rotate(full, api.MaxLen), most)
}

// 18.4: an empty one stays, and is turned about as it is.
func TestTurnsOfNone(t *testing.T) {
	for _, d := range []*finger.Deque{nil, {}, finger.New()} {
		for _, k := range []int{0, 1, -1, 7, math.MinInt, math.MaxInt} {
			check(t, split.Rotate(d, k))
		}
		check(t, split.Reverse(d))
	}
}

// 18.4
func TestReverse(t *testing.T) {
	s := sample.New(1)
	for _, n := range append(lengths(), api.MaxLen) {
		plain := numbered(0, n)
		for _, d := range []*finger.Deque{of(t, plain), pieced(t, s, plain)} {
			check(t, split.Reverse(d), turned(plain))
			check(t, split.Reverse(split.Reverse(d)), plain)
			check(t, d, plain)
		}
	}
}

// 18.4
func TestEqual(t *testing.T) {
	s := sample.New(1)
	for _, n := range append(lengths(), api.MaxLen) {
		plain := numbered(0, n)
		d, w := of(t, plain), pieced(t, s, plain)
		if !split.Equal(d, w) || !split.Equal(w, d) || !split.Equal(d, d) {
			t.Errorf("%d items: not equal", n)
		}
		for _, at := range ends(n) {
			var others []*finger.Deque
			if at < n {
				other, _, _ := split.Remove(w, at)
				others = append(others, must(t)(w.Set(at, none())), other)
			}
			if n < api.MaxLen {
				others = append(others, must(t)(split.Insert(w, at, num(-1))))
			}
			for _, other := range others {
				if split.Equal(d, other) || split.Equal(other, d) {
					t.Errorf("%d items: equal beside place %d", n, at)
				}
			}
		}
	}
	if split.Equal(of(t, ints(1, 2)), of(t, ints(2, 1))) || split.Equal(nil, of(t, ints(1))) || split.Equal(of(t, []api.Value{none()}), nil) {
		t.Errorf("equal")
	}
	// R2: lists in items, nil and empty.
	if !split.Equal(of(t, []api.Value{{Kind: api.VList}}), of(t, []api.Value{{Kind: api.VList, Items: []api.Value{}}})) {
		t.Errorf("not equal: nil and empty")
	}
}

// R6: nil is an empty deque, and so is a zero one; what is made of them is none that is nil.
func TestNil(t *testing.T) {
	for _, d := range []*finger.Deque{nil, {}} {
		for _, w := range []*finger.Deque{nil, {}, finger.New()} {
			check(t, must(t)(split.Concat(d, w)))
			if !split.Equal(d, w) {
				t.Errorf("not equal")
			}
		}
		check(t, must(t)(split.Slice(d, 0, 0)))
		checkCut(t, d, 0, nil)
		check(t, must(t)(split.Insert(d, 0, num(1))), ints(1))
		refused(t, api.ErrRange)(split.Insert(d, 1, num(1)))
		if w, x, e := split.Remove(d, 0); w != nil || !sample.Same(x, none()) || e != api.ErrRange {
			t.Errorf("Remove: %v, %v", w, e)
		}
		checkRemove(t, of(t, ints(1)), 0, ints(1))
		check(t, must(t)(split.Concat(d, of(t, ints(1)))), ints(1))
		check(t, must(t)(split.Concat(of(t, ints(1)), d)), ints(1))
	}
}
