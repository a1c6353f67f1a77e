package order_test

import (
	"fmt"
	"math"
	"math/big"
	"slices"
	"strings"
	"testing"
	"unicode/utf8"
	"unsafe"

	"spinney/api"
	"spinney/hash"
	"spinney/order"
	"spinney/sample"
	"spinney/value"
)

const least, greatest = math.MinInt64, math.MaxInt64

func none() api.Value                         { return api.Value{} }
func num(n int64) api.Value                   { return sample.Num(n) }
func str(s string) api.Value                  { return sample.Str(s) }
func list(items ...api.Value) api.Value       { return sample.List(items...) }
func set(items ...api.Value) api.Value        { return sample.Set(items...) }
func dict(items ...api.Value) api.Value       { return sample.Map(items...) }
func repeated(n int, v api.Value) []api.Value { return slices.Repeat([]api.Value{v}, n) }

// ints are numbers, one by one.
func ints(l ...int64) []api.Value {
	var out []api.Value
	for _, n := range l {
		out = append(out, num(n))
	}
	return out
}

// short is what a failing test shows of something that may be long.
func short(x any) string {
	s := fmt.Sprint(x)
	return s[:min(len(s), 120)]
}

// mixed are values of all kinds, rising in natural order.
func mixed() []api.Value {
	return []api.Value{
		none(), sample.Bool(0), sample.Bool(1), num(least), num(-1), num(0), num(1), num(greatest), str(""), str("a"), str("é"), list(), list(num(1)), list(num(1), num(1)), list(num(2)), set(), set(num(1)), dict(), dict(num(1), num(2)),
	}
}

// lines are for each order lists that rise by it, no two members the same.
func lines() map[int][][]api.Value {
	back := mixed()
	slices.Reverse(back)
	return map[int][][]api.Value{
		0: {mixed(), ints(least, -2, 0, 3, greatest), {str("a"), str("aa"), str("b"), str("é"), str("𝄞")}},
		1: {back, ints(greatest, 2, 1, 0, -1, least), {str("b"), str("aa"), str("a"), str("")}, {list(num(1), num(1)), list(num(1)), list()}},
		2: {
			// 0, 0, 0, 0, 1231, 1237, 1392991556, 1455541201, 1651860712, 2277397642, 3323962100, 4279838538, 4279838538
			{none(), num(0), str(""), str("\x00"), sample.Bool(1), sample.Bool(0), num(1), str("a"), num(-1), list(), num(2), set(), dict()},
		},
		3: {
			{none(), sample.Bool(1), num(least), num(greatest), str(""), str("zzzz"), list(), set(), dict(), list(none()), list(num(1)), list(list()), set(num(1)), list(num(1), num(1)), list(num(2), num(0)), list(list(num(0))), set(num(1), num(2)), dict(num(1), num(2)), list(none(), none(), none()), set(num(1), list(num(1))), list(sample.Numbers(api.MaxParts - 1)...), set(sample.Numbers(api.MaxParts - 1)...)},
		},
		4: {
			{str("b"), str("é"), str("aa")}, mixed(),
			{str(""), str("\x00"), str("a"), str("z"), str("é"), str("€"), str("\uFFFD"), str("𝄞"), str("aa"), str("ab"), str("aé"), str("éa"), str("𝄞𝄞"), str("aaa"), str(strings.Repeat("𝄞", api.MaxText/4)), str(strings.Repeat("é", api.MaxText/2)), str(strings.Repeat("a", api.MaxText))},
			{num(-5), num(0), num(3), str("zz"), list(), list(str("aa")), list(str("b")), set(str("aa"), str("b"))},
		},
		5: {
			ints(0, -1, 1, -2, 2, -3), ints(0, 1<<62, -(1<<62 + 1), -greatest, greatest, least),
			{none(), sample.Bool(0), sample.Bool(1), num(0), num(-1), num(1), num(least), str(""), list(), list(num(-2)), list(num(1)), set(num(-2)), dict(num(-2), num(0))},
		},
	}
}

// 6.1: the examples, and the edges that the words name.
func TestCompareByHand(t *testing.T) {
	for by, all := range lines() {
		for _, l := range all {
			for i, a := range l {
				for k, b := range l {
					want := 0
					if i < k {
						want = -1
					} else if i > k {
						want = 1
					}
					if c, e := order.Compare(by, a, b); c != want || e != api.OK {
						t.Errorf("Compare(%d, %s, %s): %d, %v, want %d", by, short(a), short(b), c, e, want)
					}
				}
			}
		}
	}
}

// compare is how two values stand by the words of the chapter, by other means than the program's.
func compare(by int, a, b api.Value) int {
	c := 0
	switch {
	case by == 1:
		return -value.Compare(a, b)
	case by == 2:
		x, _ := hash.Full(a)
		y, _ := hash.Full(b)
		c = big.NewInt(int64(x)).Cmp(big.NewInt(int64(y)))
	case by == 3:
		c = countParts(a) - countParts(b)
	case by == 4 && a.Kind == api.VStr && b.Kind == api.VStr:
		c = utf8.RuneCountInString(a.Text) - utf8.RuneCountInString(b.Text)
	case by == 5 && a.Kind == api.VInt && b.Kind == api.VInt:
		c = big.NewInt(a.Num).CmpAbs(big.NewInt(b.Num))
	}
	if c == 0 {
		return value.Compare(a, b)
	}
	return max(-1, min(1, c))
}

func countParts(v api.Value) int {
	n := 1
	for _, item := range v.Items {
		n += countParts(item)
	}
	return n
}

// many are right values, some of them the same.
func many(seed uint64, n int) []api.Value { return sample.New(seed).Values(n, 3) }

// 6.1
func TestCompareOfMany(t *testing.T) {
	l := append(many(1, 150), mixed()...)
	for by := range api.MaxOrder + 1 {
		for _, a := range l {
			for _, b := range l {
				if c, e := order.Compare(by, a, b); c != compare(by, a, b) || e != api.OK {
					t.Errorf("Compare(%d, %s, %s): %d, %v", by, short(a), short(b), c, e)
				}
			}
		}
	}
}

// 6.4
func TestOrdersAreTotal(t *testing.T) {
	l := append(many(2, 40), mixed()...)
	for by := range api.MaxOrder + 1 {
		for _, a := range l {
			for _, b := range l {
				ab, _ := order.Compare(by, a, b)
				ba, _ := order.Compare(by, b, a)
				if ab != -ba || (ab == 0) != sample.Same(a, b) {
					t.Errorf("order %d: %s, %s: %d, %d", by, short(a), short(b), ab, ba)
				}
				for _, c := range l {
					bc, _ := order.Compare(by, b, c)
					if ab > 0 || bc > 0 {
						continue
					}
					if ac, _ := order.Compare(by, a, c); ac != min(ab, bc) {
						t.Errorf("order %d: %s, %s, %s: %d, %d, %d", by, short(a), short(b), short(c), ab, bc, ac)
					}
				}
			}
		}
	}
}

// shuffled are the same values in another order.
func shuffled(seed uint64, l []api.Value) []api.Value {
	return sample.Shuffled(sample.New(seed), l)
}

// doubled has each value twice, one behind the other.
func doubled(l []api.Value) []api.Value {
	var out []api.Value
	for _, v := range l {
		out = append(out, v, v)
	}
	return out
}

func checkSort(t *testing.T, by int, l, want []api.Value) {
	t.Helper()
	if got, e := order.Sort(by, l); !sample.SameAll(got, want) || e != api.OK {
		t.Errorf("Sort(%d, %s): %s, %v, want %s", by, short(l), short(got), e, short(want))
	}
}

// 6.2
func TestSortByHand(t *testing.T) {
	for by, all := range lines() {
		for i, l := range all {
			checkSort(t, by, l, l)
			checkSort(t, by, shuffled(uint64(i), l), l)
			checkSort(t, by, shuffled(uint64(i), doubled(l)), doubled(l))
		}
		checkSort(t, by, nil, nil)
		checkSort(t, by, []api.Value{}, nil)
		checkSort(t, by, ints(7), ints(7))
		checkSort(t, by, ints(7, 7, 7), ints(7, 7, 7))
		deepest := sample.Nested(api.MaxDeep, num(1))
		checkSort(t, by, []api.Value{deepest}, []api.Value{deepest})
	}
}

// 6.2
func TestSortOfMany(t *testing.T) {
	s := sample.New(3)
	for by := range api.MaxOrder + 1 {
		for range 100 {
			l := s.Values(s.Below(60), 2)
			want := slices.Clone(l)
			slices.SortFunc(want, func(a, b api.Value) int { return compare(by, a, b) })
			checkSort(t, by, l, want)
		}
	}
}

// 6.2, 6.3: lists as long as may be.
func TestMaxLen(t *testing.T) {
	for by := range api.MaxOrder + 1 {
		want := sample.Numbers(api.MaxLen)
		slices.SortFunc(want, func(a, b api.Value) int { return compare(by, a, b) })
		mess := shuffled(4, want)
		checkSort(t, by, mess, want)
		checkSort(t, by, repeated(api.MaxLen, num(3)), repeated(api.MaxLen, num(3)))
		checkSorted(t, by, want, true)
		checkSorted(t, by, mess, false)
		if v, e := order.Least(by, mess); !sample.Same(v, want[0]) || e != api.OK {
			t.Errorf("Least(%d): %s, %v", by, short(v), e)
		}
		for _, i := range []int{0, 1, 1000, api.MaxLen - 1} {
			checkPlace(t, by, want, want[i], i, true)
		}
		for _, i := range []int{0, 1, 1000, api.MaxLen} {
			checkMerge(t, by, want[:i], want[i:], want)
			checkMerge(t, by, want[i:], want[:i], want)
		}
	}
}

func checkSorted(t *testing.T, by int, l []api.Value, want bool) {
	t.Helper()
	if is, e := order.Sorted(by, l); is != want || e != api.OK {
		t.Errorf("Sorted(%d, %s): %v, %v", by, short(l), is, e)
	}
}

// 6.2
func TestSorted(t *testing.T) {
	for by, all := range lines() {
		for _, l := range all {
			checkSorted(t, by, l, true)
			checkSorted(t, by, doubled(l), true)
			checkSorted(t, by, slices.Concat(l, l[:1]), false)
			for i := range l[1:] {
				wrong := slices.Clone(l)
				wrong[i], wrong[i+1] = wrong[i+1], wrong[i]
				checkSorted(t, by, wrong, false)
			}
		}
		checkSorted(t, by, nil, true)
		checkSorted(t, by, []api.Value{}, true)
		checkSorted(t, by, ints(5), true)
		checkSorted(t, by, ints(5, 5, 5), true)
	}
	// What one order calls sorted another one does not.
	checkSorted(t, 0, ints(-1, 0, 1), true)
	checkSorted(t, 1, ints(-1, 0, 1), false)
	checkSorted(t, 5, ints(-1, 0, 1), false)
	checkSorted(t, 0, []api.Value{str("b"), str("aa")}, false)
}

// 6.2
func TestLeast(t *testing.T) {
	for by, all := range lines() {
		for i, l := range all {
			for k := range l {
				for _, in := range [][]api.Value{l[k:], shuffled(uint64(i), l[k:]), shuffled(uint64(i+k), doubled(l[k:]))} {
					if v, e := order.Least(by, in); !sample.Same(v, l[k]) || e != api.OK {
						t.Errorf("Least(%d, %s): %s, %v, want %s", by, short(in), short(v), e, short(l[k]))
					}
				}
			}
		}
		for _, l := range [][]api.Value{nil, {}} {
			if v, e := order.Least(by, l); !sample.Same(v, none()) || e != api.ErrEmpty {
				t.Errorf("Least(%d) of none: %v, %v", by, v, e)
			}
		}
	}
}

func checkPlace(t *testing.T, by int, l []api.Value, v api.Value, want int, there bool) {
	t.Helper()
	if n, is, e := order.Place(by, l, v); n != want || is != there || e != api.OK {
		t.Errorf("Place(%d, %s, %s): %d, %v, %v, want %d, %v", by, short(l), short(v), n, is, e, want, there)
	}
}

// 6.3
func TestPlace(t *testing.T) {
	checkPlace(t, 0, ints(1, 3), num(2), 1, false)
	checkPlace(t, 0, ints(1, 3), num(1), 0, true)
	checkPlace(t, 0, ints(1, 3), num(4), 2, false)
	checkPlace(t, 0, ints(1, 2, 2, 2, 3), num(2), 1, true)
	checkPlace(t, 1, ints(3, 1), num(2), 1, false)
	checkPlace(t, 4, []api.Value{str("b"), str("é"), str("aa")}, str("c"), 1, false)
	checkPlace(t, 5, ints(0, -1, 1, -2), num(2), 4, false)
	checkPlace(t, 5, ints(0, -1, 1, -2), num(1), 2, true)
	checkPlace(t, 5, ints(0, greatest, least), num(-greatest), 1, false)
	for by, all := range lines() {
		for _, l := range all {
			twice := doubled(l)
			for i, v := range l {
				checkPlace(t, by, l, v, i, true)
				checkPlace(t, by, twice, v, 2*i, true)
				checkPlace(t, by, slices.Delete(slices.Clone(l), i, i+1), v, i, false)
				checkPlace(t, by, repeated(9, v), v, 0, true)
			}
		}
		checkPlace(t, by, nil, num(1), 0, false)
		checkPlace(t, by, []api.Value{}, none(), 0, false)
	}
}

// 6.3
func TestPlaceOfMany(t *testing.T) {
	s := sample.New(5)
	for by := range api.MaxOrder + 1 {
		for range 200 {
			l, _ := order.Sort(by, s.Values(s.Below(30), 2))
			v := s.Value(2)
			ahead, there := 0, false
			for _, member := range l {
				if compare(by, member, v) < 0 {
					ahead++
				}
				there = there || sample.Same(member, v)
			}
			checkPlace(t, by, l, v, ahead, there)
		}
	}
}

func checkMerge(t *testing.T, by int, a, b, want []api.Value) {
	t.Helper()
	if got, e := order.Merge(by, a, b); !sample.SameAll(got, want) || e != api.OK {
		t.Errorf("Merge(%d, %s, %s): %s, %v, want %s", by, short(a), short(b), short(got), e, short(want))
	}
}

// 6.3
func TestMerge(t *testing.T) {
	checkMerge(t, 0, ints(1, 3), ints(2), ints(1, 2, 3))
	checkMerge(t, 5, ints(0, 1), ints(-1, -2), ints(0, -1, 1, -2))
	for by, all := range lines() {
		for _, l := range all {
			var even, odd []api.Value
			for i, v := range l {
				if i%2 == 0 {
					even = append(even, v)
				} else {
					odd = append(odd, v)
				}
			}
			checkMerge(t, by, even, odd, l)
			checkMerge(t, by, odd, even, l)
			checkMerge(t, by, l, nil, l)
			checkMerge(t, by, []api.Value{}, l, l)
			checkMerge(t, by, l, l, doubled(l))
		}
		checkMerge(t, by, nil, nil, nil)
		checkMerge(t, by, []api.Value{}, nil, nil)
		checkMerge(t, by, ints(4, 4), ints(4), ints(4, 4, 4))
	}
}

// 6.5
func TestLaws(t *testing.T) {
	s := sample.New(6)
	for by := range api.MaxOrder + 1 {
		for range 100 {
			x, y := s.Values(s.Below(20), 3), s.Values(s.Below(20), 3)
			a, _ := order.Sort(by, x)
			b, _ := order.Sort(by, y)
			both, _ := order.Sort(by, slices.Concat(x, y))
			checkSort(t, by, a, a)
			checkMerge(t, by, a, b, both)
			checkMerge(t, by, b, a, both)
			checkSorted(t, by, both, true)
			if len(both) > 0 {
				if v, e := order.Least(by, slices.Concat(x, y)); !sample.Same(v, both[0]) || e != api.OK {
					t.Errorf("Least(%d): %s, %v, want %s", by, short(v), e, short(both[0]))
				}
			}
		}
	}
}

func checkCompareError(t *testing.T, by int, a, b api.Value, want api.Errno) {
	t.Helper()
	if c, e := order.Compare(by, a, b); c != 0 || e != want {
		t.Errorf("Compare(%d, %s, %s): %d, %v, want %v", by, short(a), short(b), c, e, want)
	}
}

// checkListErrors asks all calls of one list; of Place and Merge with others that are right.
func checkListErrors(t *testing.T, by int, l []api.Value, want api.Errno) {
	t.Helper()
	if got, e := order.Sort(by, l); got != nil || e != want {
		t.Errorf("Sort(%d, %s): %s, %v, want %v", by, short(l), short(got), e, want)
	}
	if is, e := order.Sorted(by, l); is || e != want {
		t.Errorf("Sorted(%d, %s): %v, %v, want %v", by, short(l), is, e, want)
	}
	if v, e := order.Least(by, l); !sample.Same(v, none()) || e != want {
		t.Errorf("Least(%d, %s): %s, %v, want %v", by, short(l), short(v), e, want)
	}
	checkPlaceError(t, by, l, num(1), want)
	checkMergeError(t, by, l, ints(1), want)
	checkMergeError(t, by, ints(1), l, want)
}

func checkPlaceError(t *testing.T, by int, l []api.Value, v api.Value, want api.Errno) {
	t.Helper()
	if n, is, e := order.Place(by, l, v); n != 0 || is || e != want {
		t.Errorf("Place(%d, %s, %s): %d, %v, %v, want %v", by, short(l), short(v), n, is, e, want)
	}
}

func checkMergeError(t *testing.T, by int, a, b []api.Value, want api.Errno) {
	t.Helper()
	if got, e := order.Merge(by, a, b); got != nil || e != want {
		t.Errorf("Merge(%d, %s, %s): %s, %v, want %v", by, short(a), short(b), short(got), e, want)
	}
}

// R1, R4: what is not right by itself.
func TestWrongValues(t *testing.T) {
	for _, w := range sample.Wrongs() {
		for by := range api.MaxOrder + 1 {
			checkCompareError(t, by, w, num(1), api.ErrValue)
			checkCompareError(t, by, num(1), w, api.ErrValue)
			checkCompareError(t, by, w, w, api.ErrValue)
			checkListErrors(t, by, []api.Value{w}, api.ErrValue)
			checkListErrors(t, by, []api.Value{num(1), num(2), w}, api.ErrValue)
			checkListErrors(t, by, []api.Value{str("b"), w, num(2), num(1)}, api.ErrValue)
			checkPlaceError(t, by, nil, w, api.ErrValue)
			checkPlaceError(t, by, ints(1), w, api.ErrValue)
		}
		for _, by := range sample.Beyond(api.MaxOrder) {
			checkCompareError(t, by, w, num(1), api.ErrKind)
			checkCompareError(t, by, num(1), w, api.ErrKind)
			checkListErrors(t, by, []api.Value{w}, api.ErrKind)
			checkPlaceError(t, by, ints(1), w, api.ErrKind)
		}
	}
}

// R1: an order that there is not comes ahead of all else.
func TestWrongOrders(t *testing.T) {
	for _, by := range sample.Beyond(api.MaxOrder) {
		checkCompareError(t, by, num(1), num(2), api.ErrKind)
		for _, l := range [][]api.Value{nil, {}, ints(1), ints(3, 1, 2), repeated(api.MaxLen+1, num(1))} {
			checkListErrors(t, by, l, api.ErrKind)
		}
		checkMergeError(t, by, nil, nil, api.ErrKind)
	}
}

// R1: a list's length comes ahead of its members, the first list ahead of the second one and of a value.
func TestTooLong(t *testing.T) {
	long, wrong := repeated(api.MaxLen+1, num(1)), repeated(api.MaxLen+1, sample.Bool(2))
	for by := range api.MaxOrder + 1 {
		checkListErrors(t, by, long, api.ErrLong)
		checkListErrors(t, by, wrong, api.ErrLong)
		checkPlaceError(t, by, long, sample.Bool(2), api.ErrLong)
		checkPlaceError(t, by, repeated(1, sample.Bool(2)), sample.Bool(2), api.ErrValue)
		checkMergeError(t, by, wrong[:1], long, api.ErrValue)
		checkMergeError(t, by, long, wrong[:1], api.ErrLong)
		checkMergeError(t, by, long[:1], wrong, api.ErrLong)
	}
}

// 6.3: what is not right by itself comes first, then ErrLong of both together, then ErrArg.
func TestNotSorted(t *testing.T) {
	most := repeated(api.MaxLen, num(1))
	for by, all := range lines() {
		for _, l := range all {
			back := slices.Clone(l)
			slices.Reverse(back)
			checkPlaceError(t, by, back, l[0], api.ErrArg)
			checkPlaceError(t, by, back, sample.Bool(2), api.ErrValue)
			checkMergeError(t, by, back, nil, api.ErrArg)
			checkMergeError(t, by, nil, back, api.ErrArg)
			checkMergeError(t, by, back, l, api.ErrArg)
			checkMergeError(t, by, l, back, api.ErrArg)
			checkMergeError(t, by, back, back, api.ErrArg)
			checkMergeError(t, by, back, []api.Value{sample.Bool(2)}, api.ErrValue)
			checkMergeError(t, by, back, most, api.ErrLong)
			checkMergeError(t, by, most, back, api.ErrLong)
		}
		checkMergeError(t, by, most, ints(1), api.ErrLong)
		checkMergeError(t, by, ints(1), most, api.ErrLong)
		checkMergeError(t, by, most, most, api.ErrLong)
		checkMergeError(t, by, most, []api.Value{sample.Bool(2)}, api.ErrValue)
		checkMerge(t, by, most[1:], ints(1), most)
	}
	checkPlaceError(t, 0, ints(3, 1), num(2), api.ErrArg)
	checkPlaceError(t, 1, ints(1, 3), num(2), api.ErrArg)
	checkPlaceError(t, 5, ints(0, 1, -1), num(2), api.ErrArg)
}

// calls are all calls that tell values of two lists, by a name.
func calls(by int) map[string]func(a, b []api.Value) []api.Value {
	return map[string]func(a, b []api.Value) []api.Value{
		"Sort":  func(a, _ []api.Value) []api.Value { l, _ := order.Sort(by, a); return l },
		"Least": func(a, _ []api.Value) []api.Value { v, _ := order.Least(by, a); return v.Items },
		"Merge": func(a, b []api.Value) []api.Value { l, _ := order.Merge(by, a, b); return l },
		"others": func(a, b []api.Value) []api.Value {
			order.Sorted(by, a)
			order.Place(by, a, b[0])
			order.Compare(by, a[0], b[0])
			return nil
		},
	}
}

// R3
func TestArgumentsStayAndAnswersAreNew(t *testing.T) {
	whole := []api.Value{list(num(2), set(num(1), num(2))), dict(num(1), list(num(5), num(6))), list(list(num(1)), num(1)), list(list(num(0)), num(3), num(4))}
	for by := range api.MaxOrder + 1 {
		for n := 1; n <= len(whole); n++ {
			x, _ := order.Sort(by, whole[:n])
			y, _ := order.Sort(by, whole[n-1:])
			for name, call := range calls(by) {
				a, b := sample.RoomyAll(x), sample.RoomyAll(y)
				first, again := call(a, b), call(a, b)
				want := sample.RoomyAll(first)
				stays := func() bool {
					return sample.SameAll(a, x) && sample.SameAll(b, y) && sample.RoomKept(a) && sample.RoomKept(b)
				}
				if !stays() || (name != "others") != (len(first) > 0) {
					t.Errorf("%s by %d has changed %v, %v: %v", name, by, x, y, first)
				}
				sample.Spoil(again)
				if !stays() || !sample.SameAll(first, want) {
					t.Errorf("%s by %d of %v, %v shares memory", name, by, x, y)
				}
				sample.Spoil(a)
				sample.Spoil(b)
				if !sample.SameAll(first, want) {
					t.Errorf("%s by %d of %v, %v keeps memory", name, by, x, y)
				}
			}
		}
	}
}

// R3: a list that is to be sorted stays as it was, with the room behind it; so do those of other calls that are not sorted.
func TestListsStayUnsorted(t *testing.T) {
	mess := shuffled(7, doubled(mixed()))
	for by := range api.MaxOrder + 1 {
		l := sample.RoomyAll(mess)
		for _, call := range calls(by) {
			call(l, l)
			call(l, l[:1])
			if !sample.SameAll(l, mess) || !sample.RoomKept(l) {
				t.Errorf("order %d: changed: %s", by, short(l))
			}
		}
	}
}

// R3: no two lists of one answer share memory, though they do in the argument.
func TestListsOfOneAnswer(t *testing.T) {
	part := list(num(1), list(num(2)))
	fresh := list(num(1), list(num(2)))
	for by := range api.MaxOrder + 1 {
		for name, call := range calls(by) {
			l := call([]api.Value{part, part}, []api.Value{part})
			if name == "others" || name == "Least" {
				continue
			}
			sample.Spoil(l[0].Items)
			if !sample.Same(l[1], fresh) || !sample.Same(part, fresh) {
				t.Errorf("%s by %d: %v of %v", name, by, l, part)
			}
		}
	}
}

// R3
func TestTextsAreNew(t *testing.T) {
	long := strings.Repeat("a", api.MaxText)
	sorted, _ := order.Sort(0, []api.Value{str(long)})
	merged, _ := order.Merge(0, []api.Value{str(long)}, nil)
	first, _ := order.Least(0, []api.Value{str(long)})
	for _, v := range []api.Value{sorted[0], merged[0], first} {
		if v.Text != long || unsafe.StringData(v.Text) == unsafe.StringData(long) {
			t.Errorf("the text is not new memory: %q", v.Text)
		}
	}
}

// R2, 6.4: lists within values that are nil and empty are the same to each order.
func TestNilAndEmpty(t *testing.T) {
	for _, kind := range []int{api.VNil, api.VBool, api.VInt, api.VStr, api.VList, api.VSet, api.VMap} {
		a, b := api.Value{Kind: kind}, api.Value{Kind: kind, Items: []api.Value{}}
		for by := range api.MaxOrder + 1 {
			if c, e := order.Compare(by, a, b); c != 0 || e != api.OK {
				t.Errorf("Compare(%d) of kind %d: %d, %v", by, kind, c, e)
			}
			checkPlace(t, by, []api.Value{a, b}, b, 0, true)
		}
	}
}
