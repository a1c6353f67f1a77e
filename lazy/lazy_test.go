package lazy_test

import (
	"fmt"
	"testing"

	"spinney/api"
	"spinney/cell"
	"spinney/hash"
	"spinney/lazy"
	"spinney/sample"
	"spinney/seq"
)

func none() api.Value                   { return api.Value{} }
func num(n int64) api.Value             { return sample.Num(n) }
func str(s string) api.Value            { return sample.Str(s) }
func list(items ...api.Value) api.Value { return sample.List(items...) }

// nums are numbers as values.
func nums(l ...int64) []api.Value {
	var out []api.Value
	for _, n := range l {
		out = append(out, num(n))
	}
	return out
}

// short is what a failing test shows of something that may be long.
func short(x any) string {
	s := fmt.Sprint(x)
	return s[:min(len(s), 300)]
}

// must is a cell that came without an error.
func must(t *testing.T) func(*cell.Cell, api.Errno) *cell.Cell {
	return func(c *cell.Cell, e api.Errno) *cell.Cell {
		t.Helper()
		if c == nil || e != api.OK {
			t.Fatalf("no cell: %v", e)
		}
		return c
	}
}

// refused is for what must have been no cell, but an error.
func refused(t *testing.T, want api.Errno) func(*cell.Cell, api.Errno) {
	return func(c *cell.Cell, e api.Errno) {
		t.Helper()
		if c != nil || e != want {
			t.Errorf("a cell %v, %v; want %v", c != nil, e, want)
		}
	}
}

// numbers are the numbers from n on, each one more, without end.
func numbers(t *testing.T, n int64) *cell.Cell {
	t.Helper()
	return must(t)(cell.Iter(api.FnInc, num(n)))
}

// listed is a seq of a list.
func listed(t *testing.T, l ...api.Value) *cell.Cell {
	t.Helper()
	return must(t)(seq.List(l))
}

// checkTake takes items, and finds those that are wanted.
func checkTake(t *testing.T, c *cell.Cell, n, fuel int, want []api.Value, wantLeft int) {
	t.Helper()
	if l, left, e := seq.Take(c, n, fuel); !sample.SameAll(l, want) || left != wantLeft || e != api.OK {
		t.Fatalf("%d items with %d: %s, %d left, %v; want %s, %d left", n, fuel, short(l), left, e, short(want), wantLeft)
	}
}

// checkItems goes over all items of a seq that has an end, with fuel enough.
func checkItems(t *testing.T, c *cell.Cell, want ...api.Value) {
	t.Helper()
	if l, _, e := seq.Take(c, api.MaxLen, api.MaxFuel); !sample.SameAll(l, want) || e != api.OK {
		t.Fatalf("%s, %v; want %s", short(l), e, short(want))
	}
}

// checkError forces so many items in vain.
func checkError(t *testing.T, c *cell.Cell, n, fuel int, want api.Errno) {
	t.Helper()
	if l, left, e := seq.Take(c, n, fuel); l != nil || left != 0 || e != want {
		t.Fatalf("%d items with %d: %s, %d, %v; want %v", n, fuel, short(l), left, e, want)
	}
}

// checkKnown asks how many items are known, and whether the cell itself is.
func checkKnown(t *testing.T, c *cell.Cell, want int, forced bool) {
	t.Helper()
	if n := cell.Known(c); n != want || cell.Forced(c) != forced {
		t.Fatalf("%d items are known, the cell %v; want %d, %v", n, cell.Forced(c), want, forced)
	}
}

// of is a plan of others.
func of(p api.Plan, subs ...api.Plan) api.Plan {
	p.Subs = subs
	return p
}

// upwards is the plan of the numbers from n on, plainly that of a list.
func upwards(n int64) api.Plan {
	return api.Plan{Kind: api.PlanIter, Fn: api.FnInc, Val: num(n)}
}

func plainly(l ...api.Value) api.Plan { return api.Plan{Kind: api.PlanList, List: l} }

// byFn and byN are plans of a function, a question or a number, and one other.
func byFn(kind, fn int, sub api.Plan) api.Plan { return of(api.Plan{Kind: kind, Fn: fn}, sub) }
func byN(kind, n int, sub api.Plan) api.Plan   { return of(api.Plan{Kind: kind, N: n}, sub) }

// checkRun runs a plan.
func checkRun(t *testing.T, p api.Plan, n, fuel int, want []api.Value, wantLeft int) {
	t.Helper()
	if l, left, e := lazy.Run(p, n, fuel); !sample.SameAll(l, want) || left != wantLeft || e != api.OK {
		t.Fatalf("Run of %d items with %d: %s, %d left, %v; want %s, %d left", n, fuel, short(l), left, e, short(want), wantLeft)
	}
}

// checkRunError runs a plan in vain.
func checkRunError(t *testing.T, p api.Plan, n, fuel int, want api.Errno) {
	t.Helper()
	if l, left, e := lazy.Run(p, n, fuel); l != nil || left != 0 || e != want {
		t.Fatalf("Run of %d items with %d: %s, %d, %v; want %v", n, fuel, short(l), left, e, want)
	}
}

// The chapter's examples.
func TestExamples(t *testing.T) {
	p := byN(api.PlanTake, 2, byFn(api.PlanMap, api.FnInc, upwards(0)))
	checkRun(t, p, 5, 100, nums(1, 2), 93)
	checkRun(t, p, 5, 7, nums(1, 2), 0)
	checkRunError(t, p, 5, 6, api.ErrFuel)
	nothing := byFn(api.PlanKeep, api.IsNone, upwards(0))
	for _, fuel := range []int{0, 1, 2, 3, 100, 10000, 300000} {
		checkRunError(t, nothing, 1, fuel, api.ErrFuel)
	}
}

// DOC.md's example 7: the numbers from 0 on, each one more, the first two: 1 2; it takes four of the fuel; again it takes none.
func TestExampleOfTheWhole(t *testing.T) {
	c := must(t)(lazy.Map(api.FnInc, numbers(t, 0)))
	checkTake(t, c, 2, 100, nums(1, 2), 96)
	checkTake(t, c, 2, 100, nums(1, 2), 100)
	checkTake(t, c, 2, 0, nums(1, 2), 0)
	again := must(t)(lazy.Build(byFn(api.PlanMap, api.FnInc, upwards(0))))
	checkTake(t, again, 2, 4, nums(1, 2), 0)
	checkTake(t, again, 2, 0, nums(1, 2), 0)
}

// 24.1, 24.4: each kind, by hand.
func TestMapByHand(t *testing.T) {
	items := []api.Value{num(3), str("éa"), list(num(7)), none()}
	for fn, want := range [][]api.Value{
		api.FnSame: items, api.FnInc: {num(4), str("éa"), list(num(7)), none()}, api.FnNeg: {num(-3), str("éa"), list(num(7)), none()}, api.FnSize: nums(0, 2, 1, 0),
		api.FnFirst: {none(), str("é"), num(7), none()}, api.FnWrap: {list(num(3)), list(str("éa")), list(list(num(7))), list(none())}, api.FnKind: nums(2, 3, 4, 0), api.FnHalf: {num(1), str("éa"), list(num(7)), none()},
	} {
		checkItems(t, must(t)(lazy.Map(fn, listed(t, items...))), want...)
	}
	checkTake(t, must(t)(lazy.Map(api.FnNeg, numbers(t, 5))), 3, 9, nums(-5, -6, -7), 3)
}

// 24.1, 24.4
func TestKeepAndWhileByHand(t *testing.T) {
	items := []api.Value{num(2), num(3), str("a"), num(-4), list(), none(), num(6)}
	for q, want := range []struct{ keep, while []api.Value }{
		api.IsAll: {items, items}, api.IsNone: {nil, nil}, api.IsInt: {nums(2, 3, -4, 6), nums(2, 3)}, api.IsEven: {nums(2, -4, 6), nums(2)},
		api.IsPos: {nums(2, 3, 6), nums(2, 3)}, api.IsText: {[]api.Value{str("a")}, nil}, api.IsColl: {[]api.Value{list()}, nil}, api.IsNil: {[]api.Value{none()}, nil},
	} {
		checkItems(t, must(t)(lazy.Keep(q, listed(t, items...))), want.keep...)
		checkItems(t, must(t)(lazy.While(q, listed(t, items...))), want.while...)
	}
	checkTake(t, must(t)(lazy.Keep(api.IsEven, numbers(t, 1))), 3, 99, nums(2, 4, 6), 90)
	checkItems(t, must(t)(lazy.While(api.IsEven, numbers(t, 4))), num(4))
}

// 24.1, 24.4: of 0, 1, as many as there are, more.
func TestTakeAndDropByHand(t *testing.T) {
	for n, want := range []struct{ take, drop []api.Value }{{nil, nums(1, 2, 3)}, {nums(1), nums(2, 3)}, {nums(1, 2), nums(3)}, {nums(1, 2, 3), nil}, {nums(1, 2, 3), nil}} {
		checkItems(t, must(t)(lazy.Take(n, listed(t, nums(1, 2, 3)...))), want.take...)
		checkItems(t, must(t)(lazy.Drop(n, listed(t, nums(1, 2, 3)...))), want.drop...)
	}
	checkItems(t, must(t)(lazy.Take(api.MaxLen, listed(t, nums(1, 2, 3)...))), nums(1, 2, 3)...)
	checkItems(t, must(t)(lazy.Drop(api.MaxLen, listed(t, nums(1, 2, 3)...))))
	checkItems(t, must(t)(lazy.Take(api.MaxLen, numbers(t, 0))), sample.Numbers(api.MaxLen)...)
	checkTake(t, must(t)(lazy.Drop(api.MaxLen, numbers(t, 0))), 2, api.MaxLen+3, nums(api.MaxLen, api.MaxLen+1), 0)
	checkItems(t, must(t)(lazy.Take(3, numbers(t, 7))), nums(7, 8, 9)...)
	checkTake(t, must(t)(lazy.Drop(3, numbers(t, 7))), 2, 99, nums(10, 11), 93)
}

// 24.1, 24.4: of no cells, of one, of several, of 16; empty ones first, between and last; nil ones.
func TestJoinAndTurnByHand(t *testing.T) {
	a, b := func() *cell.Cell { return listed(t, nums(1, 2, 3)...) }, func() *cell.Cell { return listed(t, nums(7, 8)...) }
	empty := must(t)(lazy.Take(0, numbers(t, 0)))
	for _, c := range []struct {
		l          []*cell.Cell
		join, turn []api.Value
	}{
		{nil, nil, nil}, {[]*cell.Cell{}, nil, nil}, {[]*cell.Cell{nil}, nil, nil}, {[]*cell.Cell{empty}, nil, nil}, {[]*cell.Cell{nil, nil, cell.Empty(), empty}, nil, nil},
		{[]*cell.Cell{a()}, nums(1, 2, 3), nums(1, 2, 3)}, {[]*cell.Cell{a(), b()}, nums(1, 2, 3, 7, 8), nums(1, 7, 2, 8, 3)}, {[]*cell.Cell{b(), a()}, nums(7, 8, 1, 2, 3), nums(7, 1, 8, 2)}, {[]*cell.Cell{a(), b(), a()}, nums(1, 2, 3, 7, 8, 1, 2, 3), nums(1, 7, 1, 2, 8, 2, 3)},
		{[]*cell.Cell{nil, a()}, nums(1, 2, 3), nil}, {[]*cell.Cell{empty, empty, a(), b()}, nums(1, 2, 3, 7, 8), nil}, {[]*cell.Cell{a(), nil, b()}, nums(1, 2, 3, 7, 8), nums(1)}, {[]*cell.Cell{a(), empty, cell.Empty(), b()}, nums(1, 2, 3, 7, 8), nums(1)}, {[]*cell.Cell{a(), b(), nil}, nums(1, 2, 3, 7, 8), nums(1, 7)},
	} {
		checkItems(t, must(t)(lazy.Join(c.l)), c.join...)
		checkItems(t, must(t)(lazy.Turn(c.l)), c.turn...)
	}
	var many []*cell.Cell
	for i := range int64(16) {
		many = append(many, listed(t, nums(i, i+100)...))
	}
	var join, first, second []api.Value
	for i := range int64(16) {
		join, first, second = append(join, nums(i, i+100)...), append(first, num(i)), append(second, num(i+100))
	}
	checkItems(t, must(t)(lazy.Join(many)), join...)
	checkItems(t, must(t)(lazy.Turn(many)), append(first, second...)...)
	// Behind one without end nothing comes; in turn it does.
	checkTake(t, must(t)(lazy.Join([]*cell.Cell{b(), numbers(t, 0), a()})), 5, 99, nums(7, 8, 0, 1, 2), 91)
	checkTake(t, must(t)(lazy.Turn([]*cell.Cell{numbers(t, 0), numbers(t, 50)})), 5, 99, nums(0, 50, 1, 51, 2), 89)
	// One cell twice, in one list.
	c := numbers(t, 0)
	checkTake(t, must(t)(lazy.Turn([]*cell.Cell{c, c})), 5, 99, nums(0, 0, 1, 1, 2), 91)
	d := must(t)(lazy.Take(2, c))
	checkTake(t, must(t)(lazy.Join([]*cell.Cell{d, d})), 5, 99, nums(0, 1, 0, 1), 91)
}

// 24.1, 24.4: parts of 1, of 2, of as many as there are, of more; a last part that is shorter.
func TestPartsByHand(t *testing.T) {
	l := nums(1, 2, 3, 4, 5)
	for n, want := range [][]api.Value{1: {list(l[:1]...), list(l[1:2]...), list(l[2:3]...), list(l[3:4]...), list(l[4:]...)}, 2: {list(l[:2]...), list(l[2:4]...), list(l[4:]...)}, 3: {list(l[:3]...), list(l[3:]...)}, 4: {list(l[:4]...), list(l[4:]...)}, 5: {list(l...)}, 6: {list(l...)}} {
		if n > 0 {
			checkItems(t, must(t)(lazy.Parts(n, listed(t, l...))), want...)
		}
	}
	checkItems(t, must(t)(lazy.Parts(api.MaxParts, listed(t, l...))), list(l...))
	checkItems(t, must(t)(lazy.Parts(3, listed(t))))
	checkItems(t, must(t)(lazy.Parts(3, nil)))
	checkTake(t, must(t)(lazy.Parts(2, numbers(t, 0))), 2, 99, []api.Value{list(nums(0, 1)...), list(nums(2, 3)...)}, 93)
}

// 24.1: a part is a right list, or ErrLong: at the greatest number of parts, and the greatest depth.
func TestPartsThatAreNoRightLists(t *testing.T) {
	fits := must(t)(lazy.Parts(api.MaxParts-1, numbers(t, 0)))
	checkTake(t, fits, 1, 2000, []api.Value{list(sample.Numbers(api.MaxParts - 1)...)}, 2000-api.MaxParts)
	below := numbers(t, 0)
	long := must(t)(lazy.Parts(api.MaxParts, below))
	checkError(t, long, 1, 2000, api.ErrLong)
	// What was forced stays so: it takes the fuel of its own cell alone; and is asked again.
	checkKnown(t, below, api.MaxParts, true)
	checkKnown(t, long, 0, false)
	checkError(t, long, 1, 1, api.ErrLong)
	checkError(t, long, 1, 0, api.ErrFuel)
	// The fuel's end comes ahead: the list is not looked at until it is whole.
	checkError(t, must(t)(lazy.Parts(api.MaxParts, numbers(t, 0))), 1, api.MaxParts, api.ErrFuel)
	checkError(t, must(t)(lazy.Parts(api.MaxParts, numbers(t, 0))), 1, api.MaxParts+1, api.ErrLong)
	for _, c := range []struct {
		n     int
		items []api.Value
		want  api.Errno
	}{
		{1, []api.Value{sample.Nested(api.MaxDeep, num(1))}, api.ErrLong}, {1, []api.Value{sample.Nested(api.MaxDeep-1, num(1))}, api.OK}, {2, []api.Value{num(1), sample.Nested(api.MaxDeep, num(1))}, api.ErrLong},
		{1, []api.Value{list(sample.Numbers(api.MaxParts - 1)...)}, api.ErrLong}, {1, []api.Value{list(sample.Numbers(api.MaxParts - 2)...)}, api.OK}, {2, []api.Value{list(sample.Numbers(api.MaxParts - 2)...), num(1)}, api.ErrLong}, {2, []api.Value{list(sample.Numbers(api.MaxParts - 3)...), num(1)}, api.OK}, {2, []api.Value{list(sample.Numbers(600)...), list(sample.Numbers(600)...)}, api.ErrLong},
	} {
		l, _, e := seq.Take(must(t)(lazy.Parts(c.n, listed(t, c.items...))), 1, 9)
		if e != c.want || e == api.OK && !sample.SameAll(l, []api.Value{list(c.items...)}) {
			t.Errorf("Parts of %d of %s: %v, want %v", c.n, short(c.items), e, c.want)
		}
	}
	// A part that is right comes ahead of one that is not.
	mixed := must(t)(lazy.Parts(1, listed(t, num(1), sample.Nested(api.MaxDeep, num(1)), num(2))))
	checkTake(t, mixed, 1, 9, []api.Value{list(num(1))}, 8)
	checkError(t, mixed, 2, 9, api.ErrLong)
	checkKnown(t, mixed, 1, true)
}

// 24.1, 24.4: of no values and of one; in the order of the list.
func TestCycleByHand(t *testing.T) {
	for _, l := range [][]api.Value{nil, {}} {
		checkTake(t, must(t)(lazy.Cycle(l)), 5, 5, nil, 4)
	}
	checkTake(t, must(t)(lazy.Cycle(nums(7))), 4, 5, nums(7, 7, 7, 7), 1)
	checkTake(t, must(t)(lazy.Cycle([]api.Value{str("a"), none(), list(num(1))})), 7, 7, []api.Value{str("a"), none(), list(num(1)), str("a"), none(), list(num(1)), str("a")}, 0)
}

// 24.1, 24.4: every function of two values; what it begins with is told, too; one that stops.
func TestStepsByHand(t *testing.T) {
	items := nums(3, 60, -5, 50, 4)
	for fn, want := range [][]api.Value{
		api.TwoAdd: nums(10, 13, 73, 68, 118, 122), api.TwoMax: nums(10, 10, 60, 60, 60, 60), api.TwoMin: nums(10, 3, 3, -5, -5, -5), api.TwoLeft: nums(10, 10, 10, 10, 10, 10), api.TwoRight: nums(10, 3, 60, -5, 50, 4),
		api.TwoConj: {num(10), list(nums(3)...), list(nums(3, 60)...), list(nums(3, 60, -5)...), list(nums(3, 60, -5, 50)...), list(items...)}, api.TwoStop: nums(10, 13, 73, 68, 118), api.TwoCount: nums(10, 11, 12, 13, 14, 15),
	} {
		checkItems(t, must(t)(lazy.Steps(fn, num(10), listed(t, items...))), want...)
	}
	for _, c := range []*cell.Cell{nil, cell.Empty(), listed(t)} {
		checkItems(t, must(t)(lazy.Steps(api.TwoAdd, str("a"), c)), str("a"))
	}
	// It stops at once; and at the last item.
	checkItems(t, must(t)(lazy.Steps(api.TwoStop, num(200), numbers(t, 0))), num(200), num(200))
	checkItems(t, must(t)(lazy.Steps(api.TwoStop, num(0), listed(t, nums(100, 1)...))), nums(0, 100, 101)...)
	checkItems(t, must(t)(lazy.Steps(api.TwoStop, num(0), listed(t, nums(100, 0)...))), nums(0, 100, 100)...)
	checkTake(t, must(t)(lazy.Steps(api.TwoAdd, num(0), numbers(t, 1))), 5, 99, nums(0, 1, 3, 6, 10), 90)
}

// P5: what comes of lazy seqs has the hash that it had.
func TestOneHash(t *testing.T) {
	l := sample.New(8).Values(50, 3)
	for _, c := range []*cell.Cell{
		must(t)(lazy.Map(api.FnSame, listed(t, l...))), must(t)(lazy.Keep(api.IsAll, listed(t, l...))), must(t)(lazy.Join([]*cell.Cell{listed(t, l...)})), must(t)(lazy.Turn([]*cell.Cell{listed(t, l...)})),
		must(t)(lazy.Cycle(l)), must(t)(lazy.Take(50, listed(t, l...))), must(t)(lazy.Drop(0, listed(t, l...))), must(t)(lazy.While(api.IsAll, listed(t, l...))), must(t)(lazy.Steps(api.TwoRight, l[0], listed(t, l[1:]...))),
	} {
		told, _, e := seq.Take(c, 50, 999)
		if len(told) != 50 || e != api.OK {
			t.Fatalf("%d items, %v", len(told), e)
		}
		for i, v := range told {
			want, _ := hash.Full(l[i])
			if h, _ := hash.Full(v); h != want {
				t.Errorf("%s: %d, want %d", short(v), h, want)
			}
		}
	}
	part, _, _ := lazy.Run(byN(api.PlanParts, 3, upwards(1)), 1, 9)
	if h, _ := hash.Full(part[0]); h != 736442005 {
		t.Errorf("the list of 1, 2, 3: %d", h)
	}
}
