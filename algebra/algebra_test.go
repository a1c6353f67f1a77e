package algebra_test

import (
	"fmt"
	"math"
	"testing"

	"spinney/algebra"
	"spinney/api"
	"spinney/sample"
)

const (
	lastFn, lastIs, lastTwo = api.FnHalf, api.IsNil, api.TwoCount

	least, greatest = math.MinInt64, math.MaxInt64
)

func none() api.Value                   { return api.Value{} }
func num(n int64) api.Value             { return sample.Num(n) }
func str(s string) api.Value            { return sample.Str(s) }
func list(items ...api.Value) api.Value { return sample.List(items...) }
func set(items ...api.Value) api.Value  { return sample.Set(items...) }
func dict(items ...api.Value) api.Value { return sample.Map(items...) }
func all(l ...api.Value) []api.Value    { return l }

func nums(l ...int64) []api.Value {
	out := []api.Value{}
	for _, n := range l {
		out = append(out, num(n))
	}
	return out
}

func deep(n int) api.Value { return sample.Nested(n, num(1)) }

// short is what a failing test shows of something that may be long.
func short(v any) string {
	s := fmt.Sprint(v)
	return s[:min(len(s), 100)]
}

func checkReduce(t *testing.T, fn int, first api.Value, l []api.Value, want api.Value, taken int) {
	t.Helper()
	if got, n, e := algebra.Reduce(fn, first, l); !sample.Same(got, want) || n != taken || e != api.OK {
		t.Errorf("Reduce(%d, %s, %s): %s, %d, %v, want %s, %d", fn, short(first), short(l), short(got), n, e, short(want), taken)
	}
}

// checkList holds a list that a call told, and its error, against what is wanted.
func checkList(t *testing.T, got []api.Value, e api.Errno, want []api.Value) {
	t.Helper()
	if !sample.SameAll(got, want) || e != api.OK {
		t.Errorf("%s, %v, want %s", short(got), e, short(want))
	}
}

// told holds a value that a call told, and its error, against what is wanted; refused wants that error, and a zero value beside it.
func told(t *testing.T, want api.Value) func(api.Value, api.Errno) {
	t.Helper()
	return func(got api.Value, e api.Errno) {
		t.Helper()
		if !sample.Same(got, want) || e != api.OK {
			t.Errorf("%s, %v, want %s", short(got), e, short(want))
		}
	}
}

func refused(t *testing.T, want api.Errno) func(api.Value, api.Errno) {
	t.Helper()
	return func(got api.Value, e api.Errno) {
		t.Helper()
		if !sample.Same(got, none()) || e != want {
			t.Errorf("%s, %v, want %v", short(got), e, want)
		}
	}
}

func refusedList(t *testing.T, want api.Errno) func([]api.Value, api.Errno) {
	t.Helper()
	return func(got []api.Value, e api.Errno) {
		t.Helper()
		if len(got) != 0 || e != want {
			t.Errorf("%s, %v, want %v", short(got), e, want)
		}
	}
}

// The examples of chapter 25.
func TestExamples(t *testing.T) {
	checkReduce(t, api.TwoStop, num(0), nums(50, 60, 70), num(110), 2)
	told(t, set(num(1), num(2)))(algebra.Into(set(num(1)), nums(2, 1)))
	got, e := algebra.Parts(2, nums(1, 2, 3))
	checkList(t, got, e, all(list(num(1), num(2)), list(num(3))))
}

// reductions are worked out by hand: all that they come by, the first one with it.
func reductions() []reduction {
	a, b := str("a"), str("b")
	return []reduction{
		{api.TwoAdd, num(0), nums(1, 2, 3), nums(0, 1, 3, 6)},
		{api.TwoAdd, num(100), nums(1, 2), nums(100, 101, 103)},
		{api.TwoAdd, num(greatest), nums(1, -1), nums(greatest, least, greatest)},
		{api.TwoAdd, num(5), all(a, num(1), none(), list(num(1))), nums(5, 5, 6, 6, 6)},
		{api.TwoAdd, a, nums(1, 2), all(a, a, a)},
		{api.TwoMax, num(1), nums(3, 2, 4), nums(1, 3, 3, 4)},
		{api.TwoMax, none(), all(num(3), b, a, list()), all(none(), num(3), b, b, list())},
		{api.TwoMin, num(2), nums(3, 1, 2), nums(2, 2, 1, 1)},
		{api.TwoMin, dict(), all(set(), list(num(1)), list()), all(dict(), set(), list(num(1)), list())},
		{api.TwoConj, list(), nums(1, 2), all(list(), list(num(1)), list(num(1), num(2)))},
		{api.TwoConj, none(), all(list(), a), all(none(), list(list()), list(list(), a))},
		{api.TwoConj, set(num(1)), nums(2, 3), all(set(num(1)), list(num(2)), list(num(2), num(3)))},
		{api.TwoConj, list(num(1)), all(deep(16), num(2), deep(15)), all(list(num(1)), list(num(1)), list(num(1), num(2)), list(num(1), num(2), deep(15)))},
		{api.TwoLeft, a, nums(1, 200, 3), all(a, a, a, a)},
		{api.TwoRight, a, all(num(200), b, none()), all(a, num(200), b, none())},
		{api.TwoStop, num(0), nums(101, 5, 7), nums(0, 101)},
		{api.TwoStop, num(0), nums(50, 60, 70), nums(0, 50, 110)},
		{api.TwoStop, num(0), nums(50, 51), nums(0, 50, 101)},
		{api.TwoStop, num(0), nums(50, 50), nums(0, 50, 100)},
		{api.TwoStop, num(200), nums(-150, 1, 2), nums(200, 50, 51, 53)},
		{api.TwoStop, num(200), nums(0, 5), nums(200, 200)},
		{api.TwoStop, num(200), all(a, num(5)), nums(200, 200)},
		{api.TwoStop, num(least), nums(-1, 5), nums(least, greatest)},
		{api.TwoStop, a, nums(101, 200), all(a, a, a)},
		{api.TwoStop, num(99), all(none(), num(1), a, num(1), num(1)), nums(99, 99, 100, 100, 101)},
		{api.TwoCount, none(), all(a, a, num(9)), all(none(), num(1), num(2), num(3))},
		{api.TwoCount, num(greatest), all(a, a), nums(greatest, least, least+1)},
		{api.TwoCount, num(100), all(a, b), nums(100, 101, 102)},
	}
}

type reduction struct {
	fn    int
	first api.Value
	l     []api.Value
	steps []api.Value
}

// 25.1, 25.5: every function of two values; reductions that stop at the first member, between, at the last one, never.
func TestReductionsByHand(t *testing.T) {
	for _, r := range reductions() {
		taken := len(r.steps) - 1
		checkReduce(t, r.fn, r.first, r.l, r.steps[taken], taken)
		got, e := algebra.Steps(r.fn, r.first, r.l)
		checkList(t, got, e, r.steps)
		// What stands behind the member that stops is not taken, whatever it is.
		if taken < len(r.l) {
			checkReduce(t, r.fn, r.first, r.l[:taken], r.steps[taken], taken)
			checkReduce(t, r.fn, r.first, append(r.l[:taken:taken], list(), num(-1000)), r.steps[taken], taken)
		}
	}
}

// 25.1, R2: no members, of every function.
func TestReductionsOfNothing(t *testing.T) {
	for fn := range lastTwo + 1 {
		for _, first := range []api.Value{none(), num(101), str("a"), list(num(1)), deep(16)} {
			for _, l := range [][]api.Value{nil, {}} {
				checkReduce(t, fn, first, l, first, 0)
				got, e := algebra.Steps(fn, first, l)
				checkList(t, got, e, all(first))
			}
		}
	}
}

// 25.2: every function of a value.
func TestGroupsByHand(t *testing.T) {
	a, b, one := str("a"), str("b"), list(num(1))
	mixed := all(num(3), a, num(2), one, num(3), none(), str("ab"), set(num(1)), dict(num(1), b), num(-3))
	for fn, want := range [lastFn + 1]api.Value{
		api.FnSame: dict(none(), list(none()), num(-3), list(num(-3)), num(2), list(num(2)), num(3), list(num(3), num(3)), a, list(a), str("ab"), list(str("ab")),
			one, list(one), set(num(1)), list(set(num(1))), dict(num(1), b), list(dict(num(1), b))),
		api.FnInc: dict(none(), list(none()), num(-2), list(num(-3)), num(3), list(num(2)), num(4), list(num(3), num(3)), a, list(a), str("ab"), list(str("ab")),
			one, list(one), set(num(1)), list(set(num(1))), dict(num(1), b), list(dict(num(1), b))),
		api.FnNeg: dict(none(), list(none()), num(-3), list(num(3), num(3)), num(-2), list(num(2)), num(3), list(num(-3)), a, list(a), str("ab"), list(str("ab")),
			one, list(one), set(num(1)), list(set(num(1))), dict(num(1), b), list(dict(num(1), b))),
		api.FnSize: dict(num(0), list(num(3), num(2), num(3), none(), num(-3)), num(1), list(a, one, set(num(1)), dict(num(1), b)), num(2), list(str("ab"))),
		api.FnFirst: dict(none(), list(num(3), num(2), num(3), none(), num(-3)), num(1), list(one, set(num(1))), a, list(a, str("ab")),
			list(num(1), b), list(dict(num(1), b))),
		api.FnWrap: dict(list(none()), list(none()), list(num(-3)), list(num(-3)), list(num(2)), list(num(2)), list(num(3)), list(num(3), num(3)), list(a), list(a), list(str("ab")), list(str("ab")),
			list(one), list(one), list(set(num(1))), list(set(num(1))), list(dict(num(1), b)), list(dict(num(1), b))),
		api.FnKind: dict(num(0), list(none()), num(2), list(num(3), num(2), num(3), num(-3)), num(3), list(a, str("ab")), num(4), list(one), num(5), list(set(num(1))), num(6), list(dict(num(1), b))),
		api.FnHalf: dict(none(), list(none()), num(-1), list(num(-3)), num(1), list(num(3), num(2), num(3)), a, list(a), str("ab"), list(str("ab")),
			one, list(one), set(num(1)), list(set(num(1))), dict(num(1), b), list(dict(num(1), b))),
	} {
		told(t, want)(algebra.Groups(fn, mixed))
		told(t, dict())(algebra.Groups(fn, nil))
		told(t, dict())(algebra.Groups(fn, []api.Value{}))
	}
	told(t, dict(num(0), list(nums(1, 0)...), num(1), list(nums(2, 3)...)))(algebra.Groups(api.FnHalf, nums(1, 2, 3, 0)))
	told(t, dict(num(7), list(nums(7, 7, 7)...)))(algebra.Groups(api.FnSame, nums(7, 7, 7)))
	told(t, dict(num(1), list(num(1)), num(2), list(num(2)), num(3), list(num(3))))(algebra.Groups(api.FnSame, nums(3, 1, 2)))
	told(t, dict(num(9), list(num(9))))(algebra.Groups(api.FnSame, nums(9)))
}

// 25.2
func TestCountsByHand(t *testing.T) {
	a, one := str("a"), list(num(1))
	told(t, dict())(algebra.Counts(nil))
	told(t, dict())(algebra.Counts([]api.Value{}))
	told(t, dict(num(5), num(1)))(algebra.Counts(nums(5)))
	told(t, dict(num(1), num(1), num(2), num(2)))(algebra.Counts(nums(2, 1, 2)))
	told(t, dict(num(7), num(4)))(algebra.Counts(nums(7, 7, 7, 7)))
	told(t, dict(num(1), num(1), num(2), num(1), num(3), num(1)))(algebra.Counts(nums(3, 1, 2)))
	told(t, dict(none(), num(2), num(0), num(1), str(""), num(1), a, num(3), list(), num(1), one, num(2), set(), num(1), dict(), num(1)))(
		algebra.Counts(all(a, one, none(), dict(), num(0), a, set(), list(), none(), one, str(""), a)))
}

// 25.2
func TestDistinctByHand(t *testing.T) {
	a, one := str("a"), list(num(1))
	for _, c := range []struct{ l, want []api.Value }{
		{nil, nil}, {[]api.Value{}, nil}, {nums(5), nums(5)}, {nums(2, 1, 2), nums(2, 1)}, {nums(7, 7, 7), nums(7)}, {nums(3, 1, 2), nums(3, 1, 2)}, {nums(1, 2, 3, 3, 2, 1, 4), nums(1, 2, 3, 4)},
		{all(a, one, none(), dict(), num(0), a, set(), list(), none(), one, str(""), a), all(a, one, none(), dict(), num(0), set(), list(), str(""))},
	} {
		got, e := algebra.Distinct(c.l)
		checkList(t, got, e, c.want)
	}
}

// 25.3: each kind; no members, members that are there already, several pairs of one key.
func TestIntoByHand(t *testing.T) {
	a, b := str("a"), str("b")
	pair := func(k, v api.Value) api.Value { return list(k, v) }
	for _, c := range []struct {
		v    api.Value
		l    []api.Value
		want api.Value
	}{
		{none(), nil, list()}, {none(), nums(1), list(num(1))}, {none(), nums(2, 1, 2), list(nums(2, 1, 2)...)}, {none(), all(none()), list(none())}, {none(), all(list(num(1))), list(list(num(1)))},
		{list(), nil, list()}, {list(), nums(1, 1), list(nums(1, 1)...)}, {list(num(1)), nil, list(num(1))}, {list(num(1), a), all(a, num(1)), list(num(1), a, a, num(1))}, {list(list()), all(list(), none()), list(list(), list(), none())},
		{set(), nil, set()}, {set(), nums(2, 1, 2), set(nums(1, 2)...)}, {set(num(1)), []api.Value{}, set(num(1))}, {set(nums(1, 3)...), nums(3, 2, 1, 3), set(nums(1, 2, 3)...)}, {set(num(5)), all(b, a, none(), list()), set(none(), num(5), a, b, list())},
		{dict(), nil, dict()}, {dict(a, num(1)), nil, dict(a, num(1))}, {dict(), all(pair(a, num(1))), dict(a, num(1))}, {dict(a, num(1)), all(pair(a, num(2))), dict(a, num(2))}, {dict(b, num(1)), all(pair(a, num(2)), pair(b, num(3)), pair(a, num(4))), dict(a, num(4), b, num(3))},
		{dict(num(1), a, num(3), b), all(pair(num(2), none()), pair(num(0), set())), dict(num(0), set(), num(1), a, num(2), none(), num(3), b)}, {dict(), all(pair(list(), list(num(1)))), dict(list(), list(num(1)))},
	} {
		told(t, c.want)(algebra.Into(c.v, c.l))
	}
	// Lists that are no pairs, and what is no list, wherever it stands; and kinds that take nothing.
	for _, x := range []api.Value{none(), num(1), sample.Bool(0), str("ab"), list(), list(num(1)), list(nums(1, 2, 3)...), set(nums(1, 2)...), dict(num(1), num(2))} {
		for _, v := range []api.Value{dict(), dict(a, num(1))} {
			refused(t, api.ErrArg)(algebra.Into(v, all(x)))
			refused(t, api.ErrArg)(algebra.Into(v, all(pair(a, b), x)))
			refused(t, api.ErrArg)(algebra.Into(v, all(x, pair(a, b))))
		}
	}
	for _, v := range []api.Value{num(0), num(5), sample.Bool(0), sample.Bool(1), str(""), a} {
		for _, l := range [][]api.Value{nil, {}, nums(1), all(a, b), all(pair(a, b))} {
			refused(t, api.ErrArg)(algebra.Into(v, l))
		}
	}
}

// 25.4
func TestPartsByHand(t *testing.T) {
	l := all(num(1), list(), str("a"), none(), num(1))
	for _, c := range []struct {
		n    int
		l    []api.Value
		want []api.Value
	}{
		{1, nil, nil}, {2, []api.Value{}, nil}, {api.MaxLen, nil, nil}, {1, nums(5), all(list(num(5)))}, {api.MaxLen, nums(5, 6), all(list(nums(5, 6)...))},
		{1, l, all(list(num(1)), list(list()), list(str("a")), list(none()), list(num(1)))}, {2, l, all(list(num(1), list()), list(str("a"), none()), list(num(1)))}, {3, l, all(list(num(1), list(), str("a")), list(none(), num(1)))},
		{4, l, all(list(l[:4]...), list(num(1)))}, {5, l, all(list(l...))}, {6, l, all(list(l...))}, {api.MaxLen, l, all(list(l...))}, {2, nums(1, 2, 3, 4), all(list(nums(1, 2)...), list(nums(3, 4)...))},
	} {
		got, e := algebra.Parts(c.n, c.l)
		checkList(t, got, e, c.want)
	}
}

// 25.4: every question; lists all of which is true, none of which is.
func TestSplitByHand(t *testing.T) {
	for _, c := range []struct {
		q  int
		l  []api.Value
		at int
	}{
		{api.IsAll, all(num(1), none(), str("a")), 3}, {api.IsNone, all(num(1), none()), 0}, {api.IsInt, all(num(1), num(-2), str("a"), num(3)), 2}, {api.IsEven, nums(2, 4, 5, 6), 2}, {api.IsEven, nums(1, 2), 0}, {api.IsEven, nums(0, -2, least), 3},
		{api.IsPos, nums(1, 2, 0, 5), 2}, {api.IsPos, nums(greatest), 1}, {api.IsText, all(str(""), str("a"), none(), str("b")), 2}, {api.IsColl, all(list(), set(), dict(), str("a"), list()), 3}, {api.IsNil, all(none(), none(), sample.Bool(0), none()), 2}, {api.IsNil, all(sample.Bool(0), none()), 0},
	} {
		checkSplit(t, c.q, c.l, c.at)
	}
	for q := range lastIs + 1 {
		checkSplit(t, q, nil, 0)
		checkSplit(t, q, []api.Value{}, 0)
	}
}

func checkSplit(t *testing.T, q int, l []api.Value, at int) {
	t.Helper()
	ahead, others, e := algebra.Split(q, l)
	if !sample.SameAll(ahead, l[:at]) || !sample.SameAll(others, l[at:]) || e != api.OK {
		t.Errorf("Split(%d, %s): %s, %s, %v", q, short(l), short(ahead), short(others), e)
	}
}
