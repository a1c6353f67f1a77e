package concat_test

import (
	"fmt"
	"math"
	"slices"
	"testing"

	"spinney/api"
	"spinney/concat"
	"spinney/model"
	"spinney/rrb"
	"spinney/sample"
)

func none() api.Value                   { return api.Value{} }
func num(n int64) api.Value             { return sample.Num(n) }
func str(s string) api.Value            { return sample.Str(s) }
func list(items ...api.Value) api.Value { return sample.List(items...) }

// ints are numbers, one by one.
func ints(l ...int64) []api.Value {
	var out []api.Value
	for _, n := range l {
		out = append(out, num(n))
	}
	return out
}

// short is what a failing test shows of something that may be long.
func short(x any) string {
	s := fmt.Sprint(x)
	return s[:min(len(s), 200)]
}

// must is a vector that came without an error.
func must(t *testing.T) func(*rrb.Vec, api.Errno) *rrb.Vec {
	return func(v *rrb.Vec, e api.Errno) *rrb.Vec {
		t.Helper()
		if v == nil || e != api.OK {
			t.Fatalf("no vector: %v", e)
		}
		return v
	}
}

func of(t *testing.T, l []api.Value) *rrb.Vec {
	t.Helper()
	return must(t)(rrb.Of(l))
}

// check asks a vector everything, against plain lists, one behind the other.
func check(t *testing.T, v *rrb.Vec, plain ...[]api.Value) {
	t.Helper()
	want := slices.Concat(plain...)
	if wrong := model.WrongOfVec(v, want); v == nil || wrong != "" {
		t.Fatalf("%s is wrong: %s of %d levels, want %s", wrong, short(v.Items()), v.Height(), short(want))
	}
}

// refused is for what must have been no vector, but an error.
func refused(t *testing.T, want api.Errno) func(*rrb.Vec, api.Errno) {
	return func(v *rrb.Vec, e api.Errno) {
		t.Helper()
		if v != nil || e != want {
			t.Fatalf("%v, want %v", e, want)
		}
	}
}

// checkCut asks for both parts of a vector that is cut.
func checkCut(t *testing.T, v *rrb.Vec, at int, plain []api.Value) {
	t.Helper()
	head, tail, e := concat.Cut(v, at)
	if e != api.OK {
		t.Fatalf("Cut(%d): %v", at, e)
	}
	check(t, head, plain[:at])
	check(t, tail, plain[at:])
}

// checkRemove asks for a vector without an item, and that one.
func checkRemove(t *testing.T, v *rrb.Vec, at int, plain []api.Value) {
	t.Helper()
	left, x, e := concat.Remove(v, at)
	if e != api.OK || !sample.Same(x, plain[at]) {
		t.Fatalf("Remove(%d): %s, %v", at, short(x), e)
	}
	check(t, left, plain[:at], plain[at+1:])
}

// numbered are n numbers from one on, so that vectors are told apart.
func numbered(from, n int) []api.Value {
	var out []api.Value
	for i := range n {
		out = append(out, num(int64(from+i)))
	}
	return out
}

// lengths are those around which nodes and levels are full.
func lengths() []int {
	return []int{0, 1, 2, 15, 16, 17, 31, 32, 33, 64, 65, 1023, 1024, 1025, 2000}
}

// relaxed is a vector of a plain list, put together from pieces of many lengths, so that its nodes are not full.
func relaxed(t *testing.T, s *sample.Source, l []api.Value) *rrb.Vec {
	t.Helper()
	v := rrb.New()
	for len(l) > 0 {
		n := 1 + s.Below(min(len(l), 50))
		if s.Below(2) == 0 {
			n = min(len(l), 17)
		}
		v = must(t)(concat.Concat(v, of(t, l[:n])))
		l = l[n:]
	}
	return v
}

// ends are ends of a vector of n items at which nodes may begin, its first and last ones among them.
func ends(n int) []int {
	var out []int
	for _, i := range []int{0, 1, 15, 16, 17, 31, 32, 33, 100, 1023, 1024, 1025, n / 2, n - 33, n - 32, n - 1, n} {
		if i >= 0 && i <= n && !slices.Contains(out, i) {
			out = append(out, i)
		}
	}
	return out
}

// noEnds are numbers that are no ends of a vector of n items.
func noEnds(n int) []int {
	return []int{-1, -2, n + 1, n + 2, -n - 1, 1 << 32, -1 << 32, math.MinInt, math.MaxInt}
}

// The chapter's examples.
func TestExamples(t *testing.T) {
	check(t, must(t)(concat.Concat(of(t, ints(1, 2)), of(t, ints(3)))), ints(1, 2, 3))
	v := of(t, ints(1, 2, 3))
	check(t, must(t)(concat.Slice(v, 1, 2)), ints(2))
	refused(t, api.ErrRange)(concat.Slice(v, 2, 1))
	check(t, must(t)(concat.Insert(of(t, ints(1, 3)), 1, num(2))), ints(1, 2, 3))
}

// 12.1
func TestConcat(t *testing.T) {
	s := sample.New(1)
	for _, n := range lengths() {
		for _, m := range lengths() {
			a, b := numbered(0, n), numbered(10000, m)
			v, w := of(t, a), relaxed(t, s, b)
			check(t, must(t)(concat.Concat(v, w)), a, b)
			check(t, must(t)(concat.Concat(w, v)), b, a)
			check(t, v, a)
			check(t, w, b)
		}
	}
}

// 12.1: of all lengths up to the next level.
func TestConcatOfAllLengths(t *testing.T) {
	for n := range 70 {
		for m := range 70 {
			a, b := numbered(0, n), numbered(100, m)
			check(t, must(t)(concat.Concat(of(t, a), of(t, b))), a, b)
		}
	}
}

// 12.1: a vector joined with itself, again and again.
func TestConcatWithItself(t *testing.T) {
	for _, n := range []int{1, 3, 16, 31, 32, 33, 1025} {
		plain := numbered(0, n)
		v := of(t, plain)
		for len(plain)*2 <= api.MaxLen {
			v, plain = must(t)(concat.Concat(v, v)), slices.Concat(plain, plain)
			check(t, v, plain)
		}
		refused(t, api.ErrLong)(concat.Concat(v, v))
	}
}

// 12.1: MaxLen items, and one more.
func TestConcatLong(t *testing.T) {
	most := numbered(0, api.MaxLen)
	full := of(t, most)
	for _, n := range []int{0, 1, 32, 33, 1024, 40000, api.MaxLen - 1, api.MaxLen} {
		a, b := of(t, most[:n]), of(t, most[n:])
		check(t, must(t)(concat.Concat(a, b)), most)
		one := of(t, ints(1))
		refused(t, api.ErrLong)(concat.Concat(must(t)(rrb.Join(a, b)), one))
		refused(t, api.ErrLong)(concat.Concat(one, must(t)(rrb.Join(a, b))))
	}
	refused(t, api.ErrLong)(concat.Concat(full, full))
	check(t, must(t)(concat.Concat(full, nil)), most)
	check(t, must(t)(concat.Concat(nil, full)), most)
}

// 12.1
func TestAll(t *testing.T) {
	check(t, must(t)(concat.All(nil)))
	check(t, must(t)(concat.All([]*rrb.Vec{})))
	check(t, must(t)(concat.All([]*rrb.Vec{nil})))
	s := sample.New(1)
	for range 40 {
		var l []*rrb.Vec
		var plain []api.Value
		for range s.Below(20) {
			if s.Below(5) == 0 {
				l = append(l, nil)
			}
			part := numbered(len(plain), lengths()[s.Below(len(lengths()))])
			l, plain = append(l, of(t, part)), append(plain, part...)
		}
		if len(plain) <= api.MaxLen {
			check(t, must(t)(concat.All(l)), plain)
		}
	}
}

// 12.1: as many vectors as may be, and one more; as many items, and one more.
func TestAllLong(t *testing.T) {
	empties := make([]*rrb.Vec, api.MaxLen+1)
	check(t, must(t)(concat.All(empties[1:])))
	refused(t, api.ErrLong)(concat.All(empties))
	one, full := of(t, ints(7)), of(t, numbered(0, api.MaxLen))
	ones := slices.Repeat([]*rrb.Vec{one}, api.MaxLen+1)
	check(t, must(t)(concat.All(ones[1:])), slices.Repeat(ints(7), api.MaxLen))
	refused(t, api.ErrLong)(concat.All(ones))
	check(t, must(t)(concat.All([]*rrb.Vec{nil, full, nil})), numbered(0, api.MaxLen))
	refused(t, api.ErrLong)(concat.All([]*rrb.Vec{one, full}))
	refused(t, api.ErrLong)(concat.All([]*rrb.Vec{full, nil, one}))
	refused(t, api.ErrLong)(concat.All(slices.Repeat([]*rrb.Vec{full}, api.MaxLen)))
}

// 12.2
func TestSlice(t *testing.T) {
	s := sample.New(1)
	for _, n := range lengths() {
		plain := numbered(0, n)
		for _, v := range []*rrb.Vec{of(t, plain), relaxed(t, s, plain)} {
			for _, from := range ends(n) {
				for _, to := range ends(n) {
					if from > to {
						refused(t, api.ErrRange)(concat.Slice(v, from, to))
						continue
					}
					check(t, must(t)(concat.Slice(v, from, to)), plain[from:to])
				}
			}
			check(t, v, plain)
		}
	}
}

// 12.2: all ends of a vector.
func TestSliceAtAllEnds(t *testing.T) {
	plain := numbered(0, 75)
	v := of(t, plain)
	for from := -1; from <= 76; from++ {
		for to := -1; to <= 76; to++ {
			if from < 0 || to > 75 || from > to {
				refused(t, api.ErrRange)(concat.Slice(v, from, to))
				continue
			}
			check(t, must(t)(concat.Slice(v, from, to)), plain[from:to])
		}
	}
}

// 12.2
func TestCut(t *testing.T) {
	s := sample.New(1)
	for _, n := range append(lengths(), api.MaxLen) {
		plain := numbered(0, n)
		for _, v := range []*rrb.Vec{of(t, plain), relaxed(t, s, plain)} {
			for _, at := range ends(n) {
				checkCut(t, v, at, plain)
			}
			check(t, v, plain)
		}
	}
	plain := numbered(0, 1100)
	v := relaxed(t, s, plain)
	for at := range 1101 {
		checkCut(t, v, at, plain)
	}
}

// 12.2, 12.3: ends and places that are none, and R4 beside them.
func TestOutOfRange(t *testing.T) {
	for _, n := range []int{0, 1, 32, 33, 1025} {
		v, one := of(t, numbered(0, n)), of(t, ints(1))
		for _, at := range noEnds(n) {
			for _, good := range ends(n) {
				refused(t, api.ErrRange)(concat.Slice(v, at, good))
				refused(t, api.ErrRange)(concat.Slice(v, good, at))
				refused(t, api.ErrRange)(concat.Splice(v, at, good, one))
				refused(t, api.ErrRange)(concat.Splice(v, good, at, one))
			}
			refused(t, api.ErrRange)(concat.Slice(v, at, at))
			refused(t, api.ErrRange)(concat.Splice(v, at, at, one))
			refused(t, api.ErrRange)(concat.Insert(v, at, num(1)))
			if a, b, e := concat.Cut(v, at); a != nil || b != nil || e != api.ErrRange {
				t.Errorf("of %d: Cut(%d): %v, %v, %v", n, at, a, b, e)
			}
		}
		for _, at := range append(noEnds(n), n) {
			if w, x, e := concat.Remove(v, at); w != nil || !sample.Same(x, none()) || e != api.ErrRange {
				t.Errorf("of %d: Remove(%d): %v, %v, %v", n, at, w, x, e)
			}
		}
		check(t, v, numbered(0, n))
	}
}

// 12.2, 12.3: a first end behind the second one.
func TestEndsTheWrongWay(t *testing.T) {
	v, one := of(t, numbered(0, 40)), of(t, ints(1))
	for _, c := range [][2]int{{1, 0}, {2, 1}, {40, 39}, {40, 0}, {33, 32}} {
		refused(t, api.ErrRange)(concat.Slice(v, c[0], c[1]))
		refused(t, api.ErrRange)(concat.Splice(v, c[0], c[1], one))
		refused(t, api.ErrRange)(concat.Splice(v, c[0], c[1], nil))
	}
}

// 12.3
func TestInsert(t *testing.T) {
	s := sample.New(1)
	x := list(str("x"), num(1))
	for _, n := range lengths() {
		plain := numbered(0, n)
		for _, v := range []*rrb.Vec{of(t, plain), relaxed(t, s, plain)} {
			for _, at := range ends(n) {
				check(t, must(t)(concat.Insert(v, at, x)), plain[:at], []api.Value{x}, plain[at:])
			}
			check(t, v, plain)
		}
	}
}

// 12.3, R1: first the item, then the place, then the length.
func TestInsertWrong(t *testing.T) {
	full := of(t, numbered(0, api.MaxLen))
	for _, v := range []*rrb.Vec{nil, of(t, numbered(0, 33)), full} {
		for _, x := range sample.Wrongs() {
			for _, at := range []int{0, v.Len(), -1, v.Len() + 1, math.MaxInt} {
				refused(t, api.ErrValue)(concat.Insert(v, at, x))
			}
		}
	}
	for _, at := range noEnds(api.MaxLen) {
		refused(t, api.ErrRange)(concat.Insert(full, at, num(1)))
	}
	for _, at := range []int{0, 1, 32768, api.MaxLen - 1, api.MaxLen} {
		refused(t, api.ErrLong)(concat.Insert(full, at, num(1)))
		almost, x, e := concat.Remove(full, min(at, api.MaxLen-1))
		if e != api.OK {
			t.Fatalf("Remove: %v", e)
		}
		check(t, must(t)(concat.Insert(almost, min(at, api.MaxLen-1), x)), numbered(0, api.MaxLen))
	}
}

// 12.3
func TestRemove(t *testing.T) {
	s := sample.New(1)
	for _, n := range append(lengths(), api.MaxLen) {
		plain := numbered(0, n)
		for _, v := range []*rrb.Vec{of(t, plain), relaxed(t, s, plain)} {
			for _, at := range ends(n) {
				if at < n {
					checkRemove(t, v, at, plain)
				}
			}
			check(t, v, plain)
		}
	}
	plain := numbered(0, 75)
	v := of(t, plain)
	for at := range plain {
		checkRemove(t, v, at, plain)
	}
}

// 12.3
func TestSplice(t *testing.T) {
	s := sample.New(1)
	for _, n := range []int{0, 1, 31, 32, 33, 65, 1025} {
		for _, m := range []int{0, 1, 32, 1025} {
			plain, other := numbered(0, n), numbered(10000, m)
			v, w := relaxed(t, s, plain), of(t, other)
			for _, from := range ends(n) {
				for _, to := range ends(n) {
					if from <= to {
						check(t, must(t)(concat.Splice(v, from, to, w)), plain[:from], other, plain[to:])
					}
				}
			}
			check(t, v, plain)
			check(t, w, other)
			check(t, must(t)(concat.Splice(v, 0, n, v)), plain)
			check(t, must(t)(concat.Splice(v, n/2, n/2, v)), plain[:n/2], plain, plain[n/2:])
			check(t, must(t)(concat.Splice(v, 0, n/2, nil)), plain[n/2:])
		}
	}
}

// 12.3: the range first, then MaxLen items and one more.
func TestSpliceLong(t *testing.T) {
	plain := numbered(0, api.MaxLen)
	full, two := of(t, plain), of(t, ints(-1, -2))
	check(t, must(t)(concat.Splice(full, 10, 12, two)), plain[:10], ints(-1, -2), plain[12:])
	check(t, must(t)(concat.Splice(full, 0, api.MaxLen, full)), plain)
	check(t, must(t)(concat.Splice(full, 9, 9, nil)), plain)
	check(t, must(t)(concat.Splice(nil, 0, 0, full)), plain)
	refused(t, api.ErrLong)(concat.Splice(full, 10, 11, two))
	refused(t, api.ErrLong)(concat.Splice(full, api.MaxLen, api.MaxLen, two))
	refused(t, api.ErrLong)(concat.Splice(full, 1, api.MaxLen, full))
	refused(t, api.ErrLong)(concat.Splice(two, 0, 1, full))
	refused(t, api.ErrRange)(concat.Splice(full, 11, 10, two))
	refused(t, api.ErrRange)(concat.Splice(full, 0, api.MaxLen+1, full))
	refused(t, api.ErrRange)(concat.Splice(full, -1, 0, full))
}

// 12.4
func TestReverse(t *testing.T) {
	s := sample.New(1)
	for _, n := range append(lengths(), api.MaxLen) {
		plain := numbered(0, n)
		turned := slices.Clone(plain)
		slices.Reverse(turned)
		for _, v := range []*rrb.Vec{of(t, plain), relaxed(t, s, plain)} {
			check(t, concat.Reverse(v), turned)
			check(t, concat.Reverse(concat.Reverse(v)), plain)
			check(t, v, plain)
		}
	}
}

// 12.4
func TestRepeat(t *testing.T) {
	for _, n := range []int{1, 2, 3, 31, 32, 33, 1024, 1025} {
		plain := numbered(0, n)
		v := of(t, plain)
		check(t, must(t)(concat.Repeat(v, 0)))
		check(t, must(t)(concat.Repeat(v, 1)), plain)
		for _, k := range []int{2, 3, 4, 5, 7, 31, 32, 33, 60, api.MaxLen / n} {
			if k*n <= api.MaxLen {
				check(t, must(t)(concat.Repeat(v, k)), slices.Repeat(plain, k))
			}
		}
		for _, k := range []int{api.MaxLen/n + 1, api.MaxLen + 1, 1 << 48, 1 << 60, math.MaxInt} {
			refused(t, api.ErrLong)(concat.Repeat(v, k))
		}
		for _, k := range []int{-1, -2, math.MinInt} {
			refused(t, api.ErrArg)(concat.Repeat(v, k))
		}
		check(t, v, plain)
	}
	full := of(t, numbered(0, api.MaxLen))
	check(t, must(t)(concat.Repeat(full, 0)))
	check(t, must(t)(concat.Repeat(full, 1)), numbered(0, api.MaxLen))
	refused(t, api.ErrLong)(concat.Repeat(full, 2))
	refused(t, api.ErrArg)(concat.Repeat(full, -1))
}

// 12.4: the empty vector, however often.
func TestRepeatOfNone(t *testing.T) {
	for _, v := range []*rrb.Vec{nil, {}, rrb.New()} {
		for _, k := range []int{0, 1, 2, api.MaxLen, api.MaxLen + 1, math.MaxInt} {
			check(t, must(t)(concat.Repeat(v, k)))
		}
		refused(t, api.ErrArg)(concat.Repeat(v, -1))
	}
}

// 12.4
func TestEqual(t *testing.T) {
	s := sample.New(1)
	for _, n := range append(lengths(), api.MaxLen) {
		plain := numbered(0, n)
		v, w := of(t, plain), relaxed(t, s, plain)
		if !concat.Equal(v, w) || !concat.Equal(w, v) || !concat.Equal(v, v) {
			t.Errorf("%d items: not equal", n)
		}
		for _, at := range ends(n) {
			var others []*rrb.Vec
			if at < n {
				other, _, _ := concat.Remove(w, at)
				others = append(others, must(t)(w.Set(at, none())), other)
			}
			if n < api.MaxLen {
				others = append(others, must(t)(concat.Insert(w, at, num(-1))))
			}
			for _, other := range others {
				if concat.Equal(v, other) || concat.Equal(other, v) {
					t.Errorf("%d items: equal beside place %d", n, at)
				}
			}
		}
	}
	if concat.Equal(of(t, ints(1, 2)), of(t, ints(2, 1))) || concat.Equal(nil, of(t, ints(1))) || concat.Equal(of(t, []api.Value{none()}), nil) {
		t.Errorf("equal")
	}
	// R2: lists in items, nil and empty.
	if !concat.Equal(of(t, []api.Value{{Kind: api.VList}}), of(t, []api.Value{{Kind: api.VList, Items: []api.Value{}}})) {
		t.Errorf("not equal: nil and empty")
	}
}

// R6: nil is an empty vector, and so is a zero one; what is made of them is none that is nil.
func TestNil(t *testing.T) {
	for _, v := range []*rrb.Vec{nil, {}} {
		for _, w := range []*rrb.Vec{nil, {}, rrb.New()} {
			check(t, must(t)(concat.Concat(v, w)))
			check(t, must(t)(concat.All([]*rrb.Vec{v, w})))
			check(t, must(t)(concat.Splice(v, 0, 0, w)))
			if !concat.Equal(v, w) {
				t.Errorf("not equal")
			}
		}
		check(t, must(t)(concat.Slice(v, 0, 0)))
		checkCut(t, v, 0, nil)
		check(t, must(t)(concat.Insert(v, 0, num(1))), ints(1))
		refused(t, api.ErrRange)(concat.Insert(v, 1, num(1)))
		check(t, concat.Reverse(v))
		if w, _, e := concat.Remove(v, 0); w != nil || e != api.ErrRange {
			t.Errorf("Remove: %v, %v", w, e)
		}
		left, x, e := concat.Remove(of(t, ints(1)), 0)
		if e != api.OK || x.Num != 1 {
			t.Errorf("Remove: %v, %v", x, e)
		}
		check(t, left)
		check(t, must(t)(concat.Concat(v, of(t, ints(1)))), ints(1))
		check(t, must(t)(concat.Concat(of(t, ints(1)), v)), ints(1))
	}
}
