package algebra_test

import (
	"slices"
	"testing"

	"spinney/algebra"
	"spinney/api"
	"spinney/sample"
)

func many(v api.Value) []api.Value { return slices.Repeat([]api.Value{v}, api.MaxLen) }

// pairsOf are lists of a key and a value, the keys being numbers from 0 on.
func pairsOf(n int) []api.Value {
	var out []api.Value
	for _, k := range sample.Numbers(n) {
		out = append(out, list(k, num(-1)))
	}
	return out
}

// 25.1: lists of MaxLen members; the steps are one more.
func TestReductionsOfMany(t *testing.T) {
	l := sample.Numbers(api.MaxLen)
	checkReduce(t, api.TwoAdd, num(0), l, num(api.MaxLen*(api.MaxLen-1)/2), api.MaxLen)
	checkReduce(t, api.TwoMax, none(), l, num(api.MaxLen-1), api.MaxLen)
	checkReduce(t, api.TwoMin, list(), l, num(0), api.MaxLen)
	checkReduce(t, api.TwoLeft, str("a"), l, str("a"), api.MaxLen)
	checkReduce(t, api.TwoRight, str("a"), l, num(api.MaxLen-1), api.MaxLen)
	checkReduce(t, api.TwoCount, none(), l, num(api.MaxLen), api.MaxLen)
	checkReduce(t, api.TwoStop, num(0), l, num(105), 15)
	ones := many(num(1))
	checkReduce(t, api.TwoStop, num(0), ones, num(101), 101)
	checkReduce(t, api.TwoStop, num(101-api.MaxLen), ones, num(101), api.MaxLen)
	checkReduce(t, api.TwoStop, num(100-api.MaxLen), ones, num(100), api.MaxLen)
	steps, e := algebra.Steps(api.TwoAdd, num(0), ones)
	checkList(t, steps, e, sample.Numbers(api.MaxLen+1))
	steps, e = algebra.Steps(api.TwoStop, num(101-api.MaxLen), ones)
	if len(steps) != api.MaxLen+1 || !sample.Same(steps[api.MaxLen], num(101)) || e != api.OK {
		t.Errorf("Steps: %d, %v", len(steps), e)
	}
}

// 25.1: what a function makes is right at each step, so a list that is full stays as it is.
func TestConjUpToTheLimits(t *testing.T) {
	l := sample.Numbers(api.MaxParts + 3)
	checkReduce(t, api.TwoConj, list(), l, list(l[:api.MaxParts-1]...), len(l))
	steps, e := algebra.Steps(api.TwoConj, none(), l[:api.MaxParts+1])
	if len(steps) != api.MaxParts+2 || e != api.OK {
		t.Fatalf("Steps: %d, %v", len(steps), e)
	}
	for i := 1; i < len(steps); i++ {
		if !sample.Same(steps[i], list(l[:min(i, api.MaxParts-1)]...)) {
			t.Errorf("step %d: %s", i, short(steps[i]))
		}
	}
	// One that has room for no more than a small member goes on with the next that fits.
	nearly := list(sample.Numbers(api.MaxParts - 2)...)
	checkReduce(t, api.TwoConj, nearly, all(list(num(1)), num(5), num(6)), list(append(sample.Numbers(api.MaxParts-2), num(5))...), 3)
}

// 25.2: groups whose map has just as many parts as a value may have, and one more; just so deep, and deeper.
func TestGroupsUpToTheLimits(t *testing.T) {
	l := sample.Numbers(2 * api.MaxParts)
	// The map, the key and its list are three parts.
	told(t, dict(num(0), list(l[:api.MaxParts-3]...)))(algebra.Groups(api.FnSize, l[:api.MaxParts-3]))
	for _, n := range []int{api.MaxParts - 2, api.MaxParts - 1, api.MaxParts, api.MaxParts + 1, len(l)} {
		refused(t, api.ErrLong)(algebra.Groups(api.FnSize, l[:n]))
	}
	// Each group of one has three parts.
	var want []api.Value
	for _, k := range l[:341] {
		want = append(want, k, list(k))
	}
	told(t, dict(want...))(algebra.Groups(api.FnSame, l[:341]))
	refused(t, api.ErrLong)(algebra.Groups(api.FnSame, l[:342]))
	// Members with parts of their own: no group alone is too great.
	half := list(l[:500]...)
	told(t, dict(num(2), list(num(1)), num(4), list(half, half)))(algebra.Groups(api.FnKind, all(half, num(1), half)))
	refused(t, api.ErrLong)(algebra.Groups(api.FnKind, all(half, set(l[:511]...), list(l[:15]...))))
	refused(t, api.ErrLong)(algebra.Groups(api.FnKind, many(num(1))))
	refused(t, api.ErrLong)(algebra.Groups(api.FnSame, sample.Numbers(api.MaxLen)))
	refused(t, api.ErrLong)(algebra.Groups(api.FnSame, many(half)))

	told(t, dict(num(4), list(deep(14), deep(3))))(algebra.Groups(api.FnKind, all(deep(14), deep(3))))
	for _, n := range []int{15, 16} {
		for fn := range lastFn + 1 {
			refused(t, api.ErrLong)(algebra.Groups(fn, all(num(1), deep(n))))
		}
	}
	told(t, dict(deep(15), list(deep(14))))(algebra.Groups(api.FnWrap, all(deep(14))))
	told(t, dict(deep(14), list(deep(14))))(algebra.Groups(api.FnSame, all(deep(14))))
}

// 25.2: likewise counts; of MaxLen members that are all alike there is one.
func TestCountsUpToTheLimits(t *testing.T) {
	l := sample.Numbers(api.MaxLen)
	var want []api.Value
	for _, k := range l[:511] {
		want = append(want, k, num(1))
	}
	told(t, dict(want...))(algebra.Counts(l[:511]))
	refused(t, api.ErrLong)(algebra.Counts(l[:512]))
	refused(t, api.ErrLong)(algebra.Counts(l))
	told(t, dict(append(want[:1020:1020], list(num(1)), num(1))...))(algebra.Counts(append(l[:510:510], list(num(1)))))
	refused(t, api.ErrLong)(algebra.Counts(append(l[:510:510], list(nums(1, 2)...))))
	told(t, dict(str("a"), num(api.MaxLen)))(algebra.Counts(many(str("a"))))
	two := slices.Repeat(nums(5, 3), api.MaxLen/2)
	told(t, dict(num(3), num(api.MaxLen/2), num(5), num(api.MaxLen/2)))(algebra.Counts(two))
	// The map has the member, a number, and itself.
	told(t, dict(list(l[:api.MaxParts-3]...), num(9)))(algebra.Counts(slices.Repeat(all(list(l[:api.MaxParts-3]...)), 9)))
	refused(t, api.ErrLong)(algebra.Counts(all(list(l[:api.MaxParts-2]...))))
	told(t, dict(deep(15), num(2)))(algebra.Counts(all(deep(15), deep(15))))
	refused(t, api.ErrLong)(algebra.Counts(all(deep(16), deep(16))))
}

// 25.2: Distinct has no limit but the list's.
func TestDistinctOfMany(t *testing.T) {
	l := sample.Numbers(api.MaxLen)
	got, e := algebra.Distinct(l)
	checkList(t, got, e, l)
	slices.Reverse(l)
	got, e = algebra.Distinct(l)
	checkList(t, got, e, l)
	got, e = algebra.Distinct(many(deep(16)))
	checkList(t, got, e, all(deep(16)))
	got, e = algebra.Distinct(slices.Repeat(l[:1000], 65))
	checkList(t, got, e, l[:1000])
}

// 25.3: of each kind just as many parts as a value may have, and one more; lists that are longer than what comes of them.
func TestIntoUpToTheLimits(t *testing.T) {
	l := sample.Numbers(api.MaxLen)
	full := l[:api.MaxParts-1]
	for _, n := range []int{0, 1, 500, api.MaxParts - 1} {
		told(t, list(full...))(algebra.Into(list(full[:n]...), full[n:]))
		told(t, set(full...))(algebra.Into(set(full[:n]...), full[n:]))
		refused(t, api.ErrLong)(algebra.Into(list(full[:n]...), l[n:api.MaxParts]))
		refused(t, api.ErrLong)(algebra.Into(set(full[:n]...), l[n:api.MaxParts]))
	}
	told(t, list(full...))(algebra.Into(none(), full))
	refused(t, api.ErrLong)(algebra.Into(none(), l[:api.MaxParts]))
	told(t, set(full...))(algebra.Into(set(full...), full))
	for _, v := range []api.Value{none(), list(), list(full...), set(), set(full...)} {
		refused(t, api.ErrLong)(algebra.Into(v, l))
	}
	told(t, set(full...))(algebra.Into(set(full...), many(num(7))))
	told(t, set(num(7)))(algebra.Into(set(), many(num(7))))
	refused(t, api.ErrLong)(algebra.Into(set(full...), many(num(-7))))
	refused(t, api.ErrLong)(algebra.Into(list(num(1)), many(num(1))))

	var want []api.Value
	for _, k := range l[:511] {
		want = append(want, k, num(-1))
	}
	for _, n := range []int{0, 1, 300, 511} {
		told(t, dict(want...))(algebra.Into(dict(want[:2*n]...), pairsOf(511)))
		refused(t, api.ErrLong)(algebra.Into(dict(want[:2*n]...), pairsOf(512)))
	}
	refused(t, api.ErrLong)(algebra.Into(dict(want...), pairsOf(api.MaxLen)))
	told(t, dict(num(0), num(-1), num(7), num(8)))(algebra.Into(dict(num(0), num(-1), num(7), num(1)), append(many(list(num(7), num(2)))[1:], list(num(7), num(8)))))
	refused(t, api.ErrLong)(algebra.Into(dict(want...), many(list(num(-5), num(2)))))
	// A pair that is no pair is told of ahead of a map that would not be right.
	refused(t, api.ErrArg)(algebra.Into(dict(want...), append(pairsOf(600), num(1))))
	refused(t, api.ErrArg)(algebra.Into(dict(want...), append(pairsOf(api.MaxLen-1), num(1))))
	refused(t, api.ErrArg)(algebra.Into(dict(), all(list(deep(15), deep(16).Items[0]), num(1))))

	for _, v := range []api.Value{none(), list(), set()} {
		kind := max(v.Kind, api.VList)
		told(t, api.Value{Kind: kind, Items: all(deep(15))})(algebra.Into(v, all(deep(15))))
		refused(t, api.ErrLong)(algebra.Into(v, all(deep(16))))
	}
	told(t, dict(deep(15), deep(15)))(algebra.Into(dict(), all(list(deep(15), deep(15)))))
	// A pair of MaxDeep is one of right values, and its key stands no deeper in the map.
	told(t, dict(num(1), deep(15)))(algebra.Into(dict(num(1), num(2)), all(list(num(1), deep(15)))))
	// Where the last one of a key counts, a value that was too great by far is none of the map's.
	great := list(l[:900]...)
	told(t, dict(num(1), num(2)))(algebra.Into(dict(num(1), great), all(list(num(1), great), list(num(1), num(2)))))
	told(t, dict(num(1), great))(algebra.Into(dict(num(1), list(l[:1000]...)), all(list(num(1), great))))
	refused(t, api.ErrLong)(algebra.Into(dict(num(2), great), all(list(num(1), great))))
}

// 25.4: parts of 1, of the list's length, of one more, of MaxLen; parts that would not be right.
func TestPartsUpToTheLimits(t *testing.T) {
	l := sample.Numbers(api.MaxLen)
	got, e := algebra.Parts(1, l)
	if len(got) != api.MaxLen || !sample.Same(got[0], list(num(0))) || !sample.Same(got[api.MaxLen-1], list(num(api.MaxLen-1))) || e != api.OK {
		t.Errorf("Parts(1): %d, %v", len(got), e)
	}
	full := api.MaxParts - 1
	got, e = algebra.Parts(full, l)
	if len(got) != api.MaxLen/full+1 || len(got[0].Items) != full || len(got[len(got)-1].Items) != api.MaxLen%full || e != api.OK {
		t.Errorf("Parts(%d): %d, %v", full, len(got), e)
	}
	for _, n := range []int{api.MaxParts, api.MaxParts + 1, api.MaxLen - 1, api.MaxLen} {
		refusedList(t, api.ErrLong)(algebra.Parts(n, l))
		refusedList(t, api.ErrLong)(algebra.Parts(n, l[:api.MaxParts]))
		// As many as there are is no part that is too great.
		got, e := algebra.Parts(n, l[:full])
		checkList(t, got, e, all(list(l[:full]...)))
	}
	// Wherever the part stands that would not be right.
	half := list(l[:511]...)
	got, e = algebra.Parts(2, all(half, list(l[:510]...), half))
	checkList(t, got, e, all(list(half, list(l[:510]...)), list(half)))
	for _, x := range [][]api.Value{all(half, half, num(1)), all(num(1), num(2), half, half), all(num(1), num(2), num(3), deep(16)), all(deep(16), num(1), num(2)), all(num(1), num(2), deep(16))} {
		refusedList(t, api.ErrLong)(algebra.Parts(2, x))
	}
	got, e = algebra.Parts(1, all(deep(15)))
	checkList(t, got, e, all(deep(16)))
}

// 25.4
func TestSplitOfMany(t *testing.T) {
	l := sample.Numbers(api.MaxLen)
	checkSplit(t, api.IsInt, l, api.MaxLen)
	checkSplit(t, api.IsNone, l, 0)
	checkSplit(t, api.IsInt, append(l[:api.MaxLen-1:api.MaxLen-1], deep(16)), api.MaxLen-1)
	checkSplit(t, api.IsColl, many(deep(16)), api.MaxLen)
}
