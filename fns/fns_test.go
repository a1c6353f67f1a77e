package fns_test

import (
	"fmt"
	"math"
	"slices"
	"strings"
	"testing"
	"unicode/utf8"
	"unsafe"

	"spinney/api"
	"spinney/fns"
	"spinney/sample"
	"spinney/value"
)

const (
	lastFn, lastIs, lastTwo = api.FnHalf, api.IsNil, api.TwoCount

	least, greatest = math.MinInt64, math.MaxInt64
)

func none() api.Value                   { return api.Value{} }
func num(n int64) api.Value             { return sample.Num(n) }
func str(s string) api.Value            { return sample.Str(s) }
func list(items ...api.Value) api.Value { return sample.List(items...) }
func set(items ...api.Value) api.Value  { return sample.Set(items...) }
func dict(items ...api.Value) api.Value { return sample.Map(items...) }

func deepest() api.Value { return sample.Nested(api.MaxDeep, num(1)) }
func widest() api.Value  { return list(sample.Numbers(api.MaxParts - 1)...) }

// short is what a failing test shows of something that may be long.
func short(v api.Value) string {
	s := fmt.Sprint(v)
	return s[:min(len(s), 80)]
}

// values are right values: each kind's edges, those at the limits, and some of no mark.
func values() []api.Value {
	out := []api.Value{
		none(), {Items: []api.Value{}}, sample.Bool(0), sample.Bool(1),
		num(0), num(1), num(-1), num(2), num(-2), num(3), num(-3), num(99), num(100), num(101), num(least), num(least + 1), num(greatest), num(greatest - 1),
		str(""), str("a"), str("é"), str("éa"), str("€"), str("𝄞b"), str("\uFFFD"), str("\x00a"), str("\U0010FFFF"), str(strings.Repeat("a", api.MaxText)), str(strings.Repeat("𝄞", api.MaxText/4)),
		list(), {Kind: api.VList, Items: []api.Value{}}, set(), {Kind: api.VSet, Items: []api.Value{}}, dict(), {Kind: api.VMap, Items: []api.Value{}},
		list(none()), list(num(2), num(1)), list(list(num(5)), num(1)), set(num(1), num(2), list()), dict(num(1), none()), dict(num(1), list(num(9)), num(2), num(8)),
		deepest(), sample.Nested(api.MaxDeep-1, num(1)), sample.Nested(api.MaxDeep, list()),
		widest(), list(sample.Numbers(api.MaxParts - 2)...), set(sample.Numbers(api.MaxParts - 1)...), dict(sample.Numbers(api.MaxParts - 2)...),
	}
	return append(out, sample.New(1).Values(60, 3)...)
}

// 5.1: the examples, and the edges that the words name.
func TestOneByHand(t *testing.T) {
	full := str(strings.Repeat("é", api.MaxText/2))
	for _, c := range []struct {
		fn      int
		v, want api.Value
	}{
		{api.FnSame, none(), none()}, {api.FnSame, num(5), num(5)}, {api.FnSame, dict(num(1), list(num(2))), dict(num(1), list(num(2)))}, {api.FnSame, deepest(), deepest()}, {api.FnSame, widest(), widest()},
		{api.FnInc, num(1), num(2)}, {api.FnInc, num(-1), num(0)}, {api.FnInc, num(greatest), num(least)}, {api.FnInc, num(least), num(least + 1)}, {api.FnInc, sample.Bool(0), sample.Bool(0)}, {api.FnInc, str("1"), str("1")}, {api.FnInc, list(num(1)), list(num(1))}, {api.FnInc, none(), none()},
		{api.FnNeg, num(1), num(-1)}, {api.FnNeg, num(-7), num(7)}, {api.FnNeg, num(0), num(0)}, {api.FnNeg, num(least), num(least)}, {api.FnNeg, num(greatest), num(least + 1)}, {api.FnNeg, sample.Bool(1), sample.Bool(1)}, {api.FnNeg, set(num(1)), set(num(1))},
		{api.FnSize, str("éa"), num(2)}, {api.FnSize, str(""), num(0)}, {api.FnSize, str("𝄞"), num(1)}, {api.FnSize, str("\uFFFD\x00"), num(2)}, {api.FnSize, full, num(128)}, {api.FnSize, list(), num(0)}, {api.FnSize, list(num(4), num(4), list(num(1), num(2))), num(3)}, {api.FnSize, set(num(1), num(2)), num(2)}, {api.FnSize, dict(num(1), num(2)), num(1)}, {api.FnSize, dict(num(1), num(2), num(3), num(4)), num(2)}, {api.FnSize, dict(), num(0)}, {api.FnSize, none(), num(0)}, {api.FnSize, num(9), num(0)}, {api.FnSize, sample.Bool(1), num(0)}, {api.FnSize, widest(), num(api.MaxParts - 1)},
		{api.FnFirst, str("éa"), str("é")}, {api.FnFirst, str("é"), str("é")}, {api.FnFirst, str("ab"), str("a")}, {api.FnFirst, str("𝄞𝄞"), str("𝄞")}, {api.FnFirst, str("\uFFFDa"), str("\uFFFD")}, {api.FnFirst, str("\x00a"), str("\x00")}, {api.FnFirst, str(""), none()}, {api.FnFirst, list(), none()}, {api.FnFirst, set(), none()}, {api.FnFirst, dict(), none()}, {api.FnFirst, list(num(2), num(1)), num(2)}, {api.FnFirst, list(none()), none()}, {api.FnFirst, set(num(1), str("a")), num(1)}, {api.FnFirst, list(list(num(1)), num(2)), list(num(1))}, {api.FnFirst, dict(num(1), str("a"), num(2), str("b")), list(num(1), str("a"))}, {api.FnFirst, dict(list(), set()), list(list(), set())}, {api.FnFirst, none(), none()}, {api.FnFirst, num(7), none()}, {api.FnFirst, sample.Bool(1), none()},
		{api.FnWrap, none(), list(none())}, {api.FnWrap, list(), list(list())}, {api.FnWrap, dict(num(1), num(2)), list(dict(num(1), num(2)))}, {api.FnWrap, sample.Nested(api.MaxDeep-1, num(1)), deepest()}, {api.FnWrap, deepest(), none()}, {api.FnWrap, list(sample.Numbers(api.MaxParts - 2)...), list(list(sample.Numbers(api.MaxParts - 2)...))}, {api.FnWrap, widest(), none()},
		{api.FnKind, none(), num(0)}, {api.FnKind, sample.Bool(1), num(1)}, {api.FnKind, num(9), num(2)}, {api.FnKind, str(""), num(3)}, {api.FnKind, list(), num(4)}, {api.FnKind, set(), num(5)}, {api.FnKind, dict(), num(6)},
		{api.FnHalf, num(7), num(3)}, {api.FnHalf, num(-7), num(-3)}, {api.FnHalf, num(1), num(0)}, {api.FnHalf, num(-1), num(0)}, {api.FnHalf, num(0), num(0)}, {api.FnHalf, num(least), num(least / 2)}, {api.FnHalf, num(greatest), num(1<<62 - 1)}, {api.FnHalf, str("ab"), str("ab")}, {api.FnHalf, list(num(8)), list(num(8))}, {api.FnHalf, sample.Bool(1), sample.Bool(1)},
	} {
		if got, e := fns.One(c.fn, c.v); !sample.Same(got, c.want) || e != api.OK {
			t.Errorf("One(%d, %s): %s, %v, want %s", c.fn, short(c.v), short(got), e, short(c.want))
		}
	}
}

// one is what a function makes of a value by the words of the chapter, by other means than the program's.
func one(fn int, v api.Value) api.Value {
	isInt := v.Kind == api.VInt
	switch fn {
	case api.FnInc:
		if isInt {
			return num(int64(uint64(v.Num) + 1))
		}
	case api.FnNeg:
		if isInt {
			return num(int64(^uint64(v.Num) + 1))
		}
	case api.FnHalf:
		if isInt {
			return num((v.Num + int64(uint64(v.Num)>>63)) >> 1)
		}
	case api.FnKind:
		return num(int64(v.Kind))
	case api.FnSize:
		n := len(v.Items) + utf8.RuneCountInString(v.Text)
		if v.Kind == api.VMap {
			n /= 2
		}
		return num(int64(n))
	case api.FnFirst:
		return firstOf(v)
	case api.FnWrap:
		if w := list(v); value.Check(w) == api.OK {
			return w
		}
		return none()
	}
	return v
}

func firstOf(v api.Value) api.Value {
	if v.Text != "" {
		_, n := utf8.DecodeRuneInString(v.Text)
		return str(v.Text[:n])
	}
	if len(v.Items) == 0 {
		return none()
	}
	if v.Kind == api.VMap {
		return list(v.Items[0], v.Items[1])
	}
	return v.Items[0]
}

// 5.1, 5.3
func TestOneOfMany(t *testing.T) {
	for _, v := range values() {
		for fn := range lastFn + 1 {
			got, e := fns.One(fn, v)
			if want := one(fn, v); !sample.Same(got, want) || e != api.OK {
				t.Errorf("One(%d, %s): %s, %v, want %s", fn, short(v), short(got), e, short(want))
			}
			if value.Check(got) != api.OK {
				t.Errorf("One(%d, %s) is not right: %s", fn, short(v), short(got))
			}
		}
	}
}

// 5.1: behind each value one letter a question, from IsAll to IsNil.
func TestIsByHand(t *testing.T) {
	for _, c := range []struct {
		v    api.Value
		want string
	}{
		{none(), "y......y"}, {sample.Bool(0), "y......."}, {sample.Bool(1), "y......."},
		{num(0), "y.yy...."}, {num(1), "y.y.y..."}, {num(-1), "y.y....."}, {num(2), "y.yyy..."}, {num(-2), "y.yy...."}, {num(least), "y.yy...."}, {num(greatest), "y.y.y..."}, {num(-3), "y.y....."},
		{str(""), "y....y.."}, {str("2"), "y....y.."}, {list(), "y.....y."}, {set(), "y.....y."}, {dict(), "y.....y."}, {list(num(2)), "y.....y."}, {dict(num(1), num(2)), "y.....y."}, {set(none()), "y.....y."}, {deepest(), "y.....y."}, {widest(), "y.....y."},
	} {
		for q := range lastIs + 1 {
			if is, e := fns.Is(q, c.v); is != (c.want[q] == 'y') || e != api.OK {
				t.Errorf("Is(%d, %s): %v, %v", q, short(c.v), is, e)
			}
		}
	}
}

// 5.1
func TestIsOfMany(t *testing.T) {
	for _, v := range values() {
		isInt := v.Kind == api.VInt
		for q, want := range []bool{true, false, isInt, isInt && v.Num&1 == 0, isInt && v.Num >= 1, v.Kind == api.VStr, v.Kind >= api.VList, v.Kind == api.VNil} {
			if is, e := fns.Is(q, v); is != want || e != api.OK {
				t.Errorf("Is(%d, %s): %v, %v", q, short(v), is, e)
			}
		}
	}
}

// 5.1: the examples, and the edges that the words name.
func TestTwoByHand(t *testing.T) {
	nearlyWidest := list(sample.Numbers(api.MaxParts - 2)...)
	for _, c := range []struct {
		fn         int
		a, b, want api.Value
		stops      bool
	}{
		{api.TwoAdd, num(1), num(2), num(3), false}, {api.TwoAdd, num(greatest), num(1), num(least), false}, {api.TwoAdd, num(least), num(least), num(0), false}, {api.TwoAdd, num(60), num(50), num(110), false}, {api.TwoAdd, num(1), str("a"), num(1), false}, {api.TwoAdd, str("a"), num(1), str("a"), false}, {api.TwoAdd, sample.Bool(1), sample.Bool(1), sample.Bool(1), false}, {api.TwoAdd, list(num(1)), list(num(2)), list(num(1)), false},
		{api.TwoMax, num(1), num(2), num(2), false}, {api.TwoMax, num(2), num(1), num(2), false}, {api.TwoMax, num(-1), str(""), str(""), false}, {api.TwoMax, list(num(1)), list(), list(num(1)), false}, {api.TwoMax, num(5), num(5), num(5), false}, {api.TwoMax, none(), sample.Bool(0), sample.Bool(0), false},
		{api.TwoMin, num(1), num(2), num(1), false}, {api.TwoMin, num(2), num(1), num(1), false}, {api.TwoMin, str(""), num(greatest), num(greatest), false}, {api.TwoMin, list(num(1)), list(), list(), false}, {api.TwoMin, set(), set(), set(), false}, {api.TwoMin, dict(), none(), none(), false},
		{api.TwoConj, list(), num(1), list(num(1)), false}, {api.TwoConj, list(num(1)), num(1), list(num(1), num(1)), false}, {api.TwoConj, list(num(1)), list(num(2)), list(num(1), list(num(2))), false}, {api.TwoConj, none(), num(1), list(num(1)), false}, {api.TwoConj, num(7), none(), list(none()), false}, {api.TwoConj, set(num(1)), num(2), list(num(2)), false}, {api.TwoConj, dict(num(1), num(2)), num(3), list(num(3)), false}, {api.TwoConj, str("a"), str("b"), list(str("b")), false},
		{api.TwoConj, list(num(1)), deepest(), list(num(1)), false}, {api.TwoConj, str("a"), deepest(), str("a"), false}, {api.TwoConj, deepest(), num(1), list(deepest().Items[0], num(1)), false}, {api.TwoConj, widest(), num(1), widest(), false}, {api.TwoConj, nearlyWidest, num(api.MaxParts - 2), widest(), false}, {api.TwoConj, nearlyWidest, list(none()), nearlyWidest, false}, {api.TwoConj, num(1), widest(), num(1), false}, {api.TwoConj, num(1), nearlyWidest, list(nearlyWidest), false},
		{api.TwoLeft, num(1), num(2), num(1), false}, {api.TwoLeft, widest(), deepest(), widest(), false}, {api.TwoLeft, none(), num(101), none(), false},
		{api.TwoRight, num(1), num(2), num(2), false}, {api.TwoRight, widest(), deepest(), deepest(), false}, {api.TwoRight, num(0), num(200), num(200), false},
		{api.TwoStop, num(60), num(50), num(110), true}, {api.TwoStop, num(50), num(50), num(100), false}, {api.TwoStop, num(51), num(50), num(101), true}, {api.TwoStop, num(-1), num(-100), num(-101), false}, {api.TwoStop, num(greatest), num(1), num(least), false}, {api.TwoStop, num(least), num(-1), num(greatest), true}, {api.TwoStop, num(101), none(), num(101), true}, {api.TwoStop, num(100), none(), num(100), false}, {api.TwoStop, none(), num(101), none(), false}, {api.TwoStop, str("a"), num(500), str("a"), false},
		{api.TwoCount, num(0), str("a"), num(1), false}, {api.TwoCount, num(5), num(9), num(6), false}, {api.TwoCount, num(greatest), none(), num(least), false}, {api.TwoCount, none(), num(9), num(1), false}, {api.TwoCount, list(num(5)), num(9), num(1), false}, {api.TwoCount, sample.Bool(1), num(9), num(1), false}, {api.TwoCount, num(200), num(9), num(201), false},
	} {
		if got, stops, e := fns.Two(c.fn, c.a, c.b); !sample.Same(got, c.want) || stops != c.stops || e != api.OK {
			t.Errorf("Two(%d, %s, %s): %s, %v, %v, want %s", c.fn, short(c.a), short(c.b), short(got), stops, e, short(c.want))
		}
	}
}

// two is what a function makes of two values by the words of the chapter.
func two(fn int, a, b api.Value) api.Value {
	ints := a.Kind == api.VInt && b.Kind == api.VInt
	switch {
	case fn == api.TwoRight, fn == api.TwoMax && value.Compare(b, a) > 0, fn == api.TwoMin && value.Compare(b, a) < 0:
		return b
	case ints && (fn == api.TwoAdd || fn == api.TwoStop):
		return num(int64(uint64(a.Num) + uint64(b.Num)))
	case fn == api.TwoCount && a.Kind == api.VInt:
		return num(int64(uint64(a.Num) + 1))
	case fn == api.TwoCount:
		return num(1)
	case fn == api.TwoConj:
		longer := list(b)
		if a.Kind == api.VList {
			longer = list(append(slices.Clone(a.Items), b)...)
		}
		if value.Check(longer) == api.OK {
			return longer
		}
	}
	return a
}

// 5.1, 5.3
func TestTwoOfMany(t *testing.T) {
	all := values()
	for _, a := range all {
		for _, b := range all {
			for fn := range lastTwo + 1 {
				got, stops, e := fns.Two(fn, a, b)
				want := two(fn, a, b)
				end := fn == api.TwoStop && want.Kind == api.VInt && want.Num >= 101
				if !sample.Same(got, want) || stops != end || e != api.OK {
					t.Fatalf("Two(%d, %s, %s): %s, %v, %v, want %s, %v", fn, short(a), short(b), short(got), stops, e, short(want), end)
				}
				if value.Check(got) != api.OK {
					t.Fatalf("Two(%d, %s, %s) is not right: %s", fn, short(a), short(b), short(got))
				}
			}
		}
	}
}

// 5.2
func TestTimesByHand(t *testing.T) {
	for _, c := range []struct {
		fn, n   int
		v, want api.Value
	}{
		{api.FnInc, 0, num(5), num(5)}, {api.FnInc, 1, num(5), num(6)}, {api.FnInc, api.MaxLen, num(5), num(5 + api.MaxLen)}, {api.FnInc, api.MaxLen, num(greatest), num(least + api.MaxLen - 1)}, {api.FnInc, api.MaxLen, str("a"), str("a")},
		{api.FnNeg, api.MaxLen, num(5), num(5)}, {api.FnNeg, api.MaxLen - 1, num(5), num(-5)}, {api.FnNeg, 7, num(least), num(least)},
		{api.FnHalf, 62, num(greatest), num(1)}, {api.FnHalf, 63, num(greatest), num(0)}, {api.FnHalf, 63, num(least), num(-1)}, {api.FnHalf, api.MaxLen, num(least), num(0)},
		{api.FnWrap, 0, none(), none()}, {api.FnWrap, 3, none(), list(list(list(none())))}, {api.FnWrap, api.MaxDeep, none(), sample.Nested(api.MaxDeep, none())}, {api.FnWrap, api.MaxDeep + 1, num(4), none()}, {api.FnWrap, api.MaxDeep + 3, num(4), list(list(none()))}, {api.FnWrap, 2, widest(), list(none())}, {api.FnWrap, api.MaxLen, num(4), sample.Nested(api.MaxLen%(api.MaxDeep+1), none())},
		{api.FnFirst, api.MaxDeep, deepest(), num(1)}, {api.FnFirst, api.MaxDeep + 1, deepest(), none()}, {api.FnFirst, 1, dict(str("ab"), num(1)), list(str("ab"), num(1))}, {api.FnFirst, 2, dict(str("ab"), num(1)), str("ab")}, {api.FnFirst, 3, dict(str("ab"), num(1)), str("a")}, {api.FnFirst, api.MaxLen, dict(str("ab"), num(1)), str("a")},
		{api.FnKind, 1, str("a"), num(3)}, {api.FnKind, 2, str("a"), num(2)}, {api.FnKind, api.MaxLen, str("a"), num(2)}, {api.FnSize, 1, str("abc"), num(3)}, {api.FnSize, 2, str("abc"), num(0)},
		{api.FnSame, 0, widest(), widest()}, {api.FnSame, api.MaxLen, widest(), widest()}, {api.FnSame, api.MaxLen, deepest(), deepest()},
	} {
		if got, e := fns.Times(c.fn, c.n, c.v); !sample.Same(got, c.want) || e != api.OK {
			t.Errorf("Times(%d, %d, %s): %s, %v, want %s", c.fn, c.n, short(c.v), short(got), e, short(c.want))
		}
	}
}

// 5.2
func TestTimesIsOneAgainAndAgain(t *testing.T) {
	for _, v := range values() {
		for fn := range lastFn + 1 {
			want := v
			for n := range 40 {
				if got, e := fns.Times(fn, n, v); !sample.Same(got, want) || e != api.OK {
					t.Fatalf("Times(%d, %d, %s): %s, %v, want %s", fn, n, short(v), short(got), e, short(want))
				}
				want, _ = fns.One(fn, want)
			}
		}
	}
}

// 5.3
func TestTimesAddUp(t *testing.T) {
	s := sample.New(2)
	for _, v := range values() {
		for fn := range lastFn + 1 {
			n, m := s.Below(50), s.Below(50)
			if s.Below(20) == 0 {
				n = s.Below(api.MaxLen + 1)
				m = api.MaxLen - n
			}
			first, _ := fns.Times(fn, n, v)
			both, e := fns.Times(fn, m, first)
			if whole, f := fns.Times(fn, n+m, v); !sample.Same(both, whole) || e != api.OK || f != api.OK || value.Check(whole) != api.OK {
				t.Errorf("Times(%d, %d and %d, %s): %s, %v; %s, %v", fn, n, m, short(v), short(both), e, short(whole), f)
			}
		}
	}
}

// R1, R4: the number of a function ahead of values, and n between them.
func TestWrongArguments(t *testing.T) {
	ns := []int{-1, api.MaxLen + 1, -api.MaxLen, 1 << 32, math.MinInt, math.MaxInt}
	all := append(sample.Wrongs(), num(1))
	for i, v := range all {
		isWrong := i < len(all)-1
		for _, fn := range sample.Beyond(lastFn) {
			checkOne(t, fn, v, api.ErrKind)
			checkTimes(t, fn, 1, v, api.ErrKind)
			for _, n := range ns {
				checkTimes(t, fn, n, v, api.ErrKind)
			}
		}
		for _, q := range sample.Beyond(lastIs) {
			checkIs(t, q, v, api.ErrKind)
		}
		for _, fn := range sample.Beyond(lastTwo) {
			checkTwo(t, fn, v, num(1), api.ErrKind)
			checkTwo(t, fn, num(1), v, api.ErrKind)
		}
		for fn := range lastFn + 1 {
			for _, n := range ns {
				checkTimes(t, fn, n, v, api.ErrArg)
			}
			if isWrong {
				checkOne(t, fn, v, api.ErrValue)
				checkTimes(t, fn, 0, v, api.ErrValue)
				checkTimes(t, fn, 1, v, api.ErrValue)
				checkTimes(t, fn, api.MaxLen, v, api.ErrValue)
				checkIs(t, fn, v, api.ErrValue)
				checkTwo(t, fn, v, num(1), api.ErrValue)
				checkTwo(t, fn, num(1), v, api.ErrValue)
				checkTwo(t, fn, v, v, api.ErrValue)
			}
		}
	}
}

func checkOne(t *testing.T, fn int, v api.Value, want api.Errno) {
	t.Helper()
	if got, e := fns.One(fn, v); !sample.Same(got, none()) || e != want {
		t.Errorf("One(%d, %s): %s, %v, want %v", fn, short(v), short(got), e, want)
	}
}

func checkTimes(t *testing.T, fn, n int, v api.Value, want api.Errno) {
	t.Helper()
	if got, e := fns.Times(fn, n, v); !sample.Same(got, none()) || e != want {
		t.Errorf("Times(%d, %d, %s): %s, %v, want %v", fn, n, short(v), short(got), e, want)
	}
}

func checkIs(t *testing.T, q int, v api.Value, want api.Errno) {
	t.Helper()
	if is, e := fns.Is(q, v); is || e != want {
		t.Errorf("Is(%d, %s): %v, %v, want %v", q, short(v), is, e, want)
	}
}

func checkTwo(t *testing.T, fn int, a, b api.Value, want api.Errno) {
	t.Helper()
	if got, stops, e := fns.Two(fn, a, b); !sample.Same(got, none()) || stops || e != want {
		t.Errorf("Two(%d, %s, %s): %s, %v, %v, want %v", fn, short(a), short(b), short(got), stops, e, want)
	}
}

// calls are all calls that tell a value of two, by a name.
func calls() map[string]func(a, b api.Value) api.Value {
	out := map[string]func(a, b api.Value) api.Value{}
	for fn := range lastFn + 1 {
		out[fmt.Sprint("One ", fn)] = func(a, _ api.Value) api.Value { v, _ := fns.One(fn, a); return v }
		out[fmt.Sprint("Times ", fn)] = func(a, _ api.Value) api.Value { v, _ := fns.Times(fn, 2, a); return v }
		out[fmt.Sprint("Times 0 ", fn)] = func(a, _ api.Value) api.Value { v, _ := fns.Times(fn, 0, a); return v }
	}
	for fn := range lastTwo + 1 {
		out[fmt.Sprint("Two ", fn)] = func(a, b api.Value) api.Value { v, _, _ := fns.Two(fn, a, b); return v }
	}
	return out
}

// nested are values whose parts have lists, so that memory may be shared.
func nested() []api.Value {
	return []api.Value{
		list(list(num(1), list(num(2))), num(3)), list(num(1)), set(list(num(1)), list(num(2))), dict(list(num(1)), list(num(2), num(3))), list(dict(num(1), list(num(4)))), str("ab"), num(6), list(),
	}
}

// R3
func TestArgumentsStayAndAnswersAreNew(t *testing.T) {
	for name, call := range calls() {
		for _, x := range nested() {
			for _, y := range nested() {
				a, b := sample.Roomy(x), sample.Roomy(y)
				first, again := call(a, b), call(a, b)
				want := sample.Roomy(first)
				if !sample.Same(a, x) || !sample.Same(b, y) || !sample.RoomKept(a.Items) || !sample.RoomKept(b.Items) {
					t.Errorf("%s has changed %v, %v", name, x, y)
				}
				sample.Spoil(again.Items)
				if !sample.Same(a, x) || !sample.Same(b, y) || !sample.RoomKept(a.Items) || !sample.RoomKept(b.Items) || !sample.Same(first, want) {
					t.Errorf("%s of %v, %v shares memory", name, x, y)
				}
				sample.Spoil(a.Items)
				sample.Spoil(b.Items)
				if !sample.Same(first, want) {
					t.Errorf("%s of %v, %v keeps memory", name, x, y)
				}
			}
		}
	}
}

// R3: no two lists of one answer share memory, though they do in the argument.
func TestListsOfOneAnswer(t *testing.T) {
	part := list(num(1), num(2))
	for name, c := range map[string]struct {
		fn   int
		a, b api.Value
	}{
		"the same twice": {api.TwoConj, list(part), part}, "itself": {api.TwoConj, part, part},
	} {
		v, _, e := fns.Two(c.fn, c.a, c.b)
		if e != api.OK || len(v.Items) < 2 {
			t.Fatalf("%s: %v, %v", name, v, e)
		}
		sample.Spoil(v.Items[:1:1])
		if last := v.Items[len(v.Items)-1]; !sample.Same(last, part) {
			t.Errorf("%s: %v", name, last)
		}
	}
	v, e := fns.One(api.FnFirst, dict(part, part))
	if e != api.OK || len(v.Items) != 2 {
		t.Fatalf("FnFirst: %v, %v", v, e)
	}
	sample.Spoil(v.Items[0].Items)
	if !sample.Same(v.Items[1], part) {
		t.Errorf("FnFirst: %v", v)
	}
}

// R3
func TestTextsAreNew(t *testing.T) {
	long := strings.Repeat("a", api.MaxText)
	for name, call := range calls() {
		v := call(str(long), str(long))
		for len(v.Items) > 0 {
			v = v.Items[0]
		}
		if v.Text == long && unsafe.StringData(v.Text) == unsafe.StringData(long) {
			t.Errorf("%s: the text is the argument's memory", name)
		}
	}
}

// R2: a list that is nil and one that is empty are the same.
func TestNilAndEmpty(t *testing.T) {
	for _, kind := range []int{api.VNil, api.VBool, api.VInt, api.VStr, api.VList, api.VSet, api.VMap} {
		a, b := api.Value{Kind: kind}, api.Value{Kind: kind, Items: []api.Value{}}
		for name, call := range calls() {
			if x, y := call(a, num(1)), call(b, num(1)); !sample.Same(x, y) {
				t.Errorf("%s of kind %d: %v, %v", name, kind, x, y)
			}
			if x, y := call(list(), a), call(list(), b); !sample.Same(x, y) {
				t.Errorf("%s with kind %d: %v, %v", name, kind, x, y)
			}
		}
		for q := range lastIs + 1 {
			x, e := fns.Is(q, a)
			if y, f := fns.Is(q, b); x != y || e != api.OK || f != api.OK {
				t.Errorf("Is(%d) of kind %d: %v, %v", q, kind, x, y)
			}
		}
	}
}
