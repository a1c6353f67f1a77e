package lazy_test

import (
	"math"
	"testing"

	"spinney/api"
	"spinney/cell"
	"spinney/lazy"
	"spinney/sample"
	"spinney/seq"
)

// rightPlans are plans of every kind, the kind's number their place.
func rightPlans() []api.Plan {
	sub := plainly(nums(1, 2, 3)...)
	return []api.Plan{
		api.PlanList:  plainly(nums(1, 2)...),
		api.PlanIter:  {Kind: api.PlanIter, Fn: api.FnInc, Val: num(3)},
		api.PlanMap:   byFn(api.PlanMap, api.FnNeg, sub),
		api.PlanKeep:  byFn(api.PlanKeep, api.IsEven, sub),
		api.PlanTake:  byN(api.PlanTake, 2, sub),
		api.PlanDrop:  byN(api.PlanDrop, 2, sub),
		api.PlanJoin:  of(api.Plan{Kind: api.PlanJoin}, sub, sub),
		api.PlanParts: byN(api.PlanParts, 2, sub),
		api.PlanWhile: byFn(api.PlanWhile, api.IsPos, sub),
		api.PlanTurn:  of(api.Plan{Kind: api.PlanTurn}, sub, sub),
		api.PlanCycle: {Kind: api.PlanCycle, List: nums(1, 2)},
		api.PlanSteps: of(api.Plan{Kind: api.PlanSteps, Fn: api.TwoAdd, Val: num(3)}, sub),
	}
}

// checkRight finds a plan right, by itself and in others.
func checkRight(t *testing.T, p api.Plan) {
	t.Helper()
	for _, q := range []api.Plan{p, byN(api.PlanTake, 5, p), of(api.Plan{Kind: api.PlanJoin}, plainly(), p)} {
		if e := lazy.Check(q); e != api.OK {
			t.Fatalf("Check(%s): %v", short(q), e)
		}
		if c, e := lazy.Build(q); c == nil || e != api.OK {
			t.Fatalf("Build(%s): a cell %v, %v", short(q), c != nil, e)
		}
		if _, left, e := lazy.Run(q, 0, 5); left != 5 || e != api.OK {
			t.Fatalf("Run(%s): %d, %v", short(q), left, e)
		}
	}
}

// checkWrong finds that a plan is not right, by itself and in others, also ahead of wrong numbers.
func checkWrong(t *testing.T, p api.Plan) {
	t.Helper()
	right := plainly(num(1))
	for _, q := range []api.Plan{p, byN(api.PlanTake, 5, p), of(api.Plan{Kind: api.PlanJoin}, right, p), of(api.Plan{Kind: api.PlanTurn}, p, right), byFn(api.PlanMap, 0, byN(api.PlanTake, 0, p))} {
		if e := lazy.Check(q); e != api.ErrForm {
			t.Fatalf("Check(%s): %v", short(q), e)
		}
		if c, e := lazy.Build(q); c != nil || e != api.ErrForm {
			t.Fatalf("Build(%s): a cell %v, %v", short(q), c != nil, e)
		}
		for _, n := range []int{0, 1, api.MaxLen, -1, api.MaxLen + 1} {
			for _, fuel := range []int{0, 99, api.MaxFuel, -1, api.MaxFuel + 1} {
				checkRunError(t, q, n, fuel, api.ErrForm)
			}
		}
	}
}

// 24.2: every kind, right.
func TestRightPlans(t *testing.T) {
	for _, p := range rightPlans() {
		checkRight(t, p)
	}
	checkRight(t, api.Plan{})
	for kind, want := range map[int][]api.Value{
		api.PlanList: nums(1, 2), api.PlanIter: nums(3, 4, 5), api.PlanMap: nums(-1, -2, -3), api.PlanKeep: nums(2), api.PlanTake: nums(1, 2), api.PlanDrop: nums(3), api.PlanJoin: nums(1, 2, 3), api.PlanParts: {list(nums(1, 2)...), list(num(3))},
		api.PlanWhile: nums(1, 2, 3), api.PlanTurn: nums(1, 1, 2), api.PlanCycle: nums(1, 2, 1), api.PlanSteps: nums(3, 4, 6),
	} {
		l, _, e := lazy.Run(rightPlans()[kind], 3, 99)
		if !sample.SameAll(l, want) || e != api.OK {
			t.Errorf("kind %d: %v, %v", kind, l, e)
		}
	}
}

// 24.2: a kind that is none.
func TestWrongKinds(t *testing.T) {
	for _, kind := range sample.Beyond(api.PlanSteps) {
		for _, p := range append(rightPlans(), api.Plan{}) {
			p.Kind = kind
			checkWrong(t, p)
		}
	}
}

// 24.2: each kind with each number of subs: one where one is named, 0 to 16 of Join and Turn, none of others.
func TestSubs(t *testing.T) {
	for kind, p := range rightPlans() {
		least, most := 1, 1
		switch kind {
		case api.PlanList, api.PlanIter, api.PlanCycle:
			least, most = 0, 0
		case api.PlanJoin, api.PlanTurn:
			least, most = 0, 16
		}
		for n := range 20 {
			// A list without an element may be nil or empty.
			p.Subs = []api.Plan{}
			for range n {
				p.Subs = append(p.Subs, plainly())
			}
			if n >= least && n <= most {
				checkRight(t, p)
			} else {
				checkWrong(t, p)
			}
		}
		p.Subs = nil
		if least == 0 {
			checkRight(t, p)
		} else {
			checkWrong(t, p)
		}
	}
}

// 24.2: each kind with something in a field that it does not name.
func TestFieldsThatAreNotNamed(t *testing.T) {
	named := func(kind int, kinds ...int) bool {
		for _, k := range kinds {
			if k == kind {
				return true
			}
		}
		return false
	}
	for kind, right := range rightPlans() {
		if !named(kind, api.PlanIter, api.PlanMap, api.PlanKeep, api.PlanWhile, api.PlanSteps) {
			for _, fn := range []int{1, -1, 7, math.MaxInt, math.MinInt} {
				p := right
				p.Fn = fn
				checkWrong(t, p)
			}
		}
		if !named(kind, api.PlanTake, api.PlanDrop, api.PlanParts) {
			for _, n := range []int{1, -1, api.MaxLen, math.MaxInt, math.MinInt} {
				p := right
				p.N = n
				checkWrong(t, p)
			}
		}
		if !named(kind, api.PlanIter, api.PlanSteps) {
			for _, v := range []api.Value{num(0), num(1), sample.Bool(0), str(""), list(), sample.Set(), sample.Map(), {Num: 1}, {Text: "a"}, {Items: nums(1)}, {Kind: -1}, {Kind: 7}} {
				p := right
				p.Val = v
				checkWrong(t, p)
			}
			right.Val = api.Value{Items: []api.Value{}}
			checkRight(t, right)
		}
		if !named(kind, api.PlanList, api.PlanCycle) {
			for _, l := range [][]api.Value{nums(1), {none()}, {sample.Bool(2)}} {
				p := right
				p.List = l
				checkWrong(t, p)
			}
			right.List = []api.Value{}
			checkRight(t, right)
		}
	}
}

// 24.2: functions, questions and functions of two values, all of them, and those that are none.
func TestFunctionsOfPlans(t *testing.T) {
	for kind, last := range map[int]int{api.PlanIter: api.FnHalf, api.PlanMap: api.FnHalf, api.PlanKeep: api.IsNil, api.PlanWhile: api.IsNil, api.PlanSteps: api.TwoCount} {
		p := rightPlans()[kind]
		for fn := range last + 1 {
			p.Fn = fn
			checkRight(t, p)
		}
		for _, fn := range sample.Beyond(last) {
			p.Fn = fn
			checkWrong(t, p)
		}
	}
}

// 24.2: N from 0 to MaxLen, of Parts from 1 to MaxParts.
func TestNumbersOfPlans(t *testing.T) {
	for kind, bounds := range map[int][2]int{api.PlanTake: {0, api.MaxLen}, api.PlanDrop: {0, api.MaxLen}, api.PlanParts: {1, api.MaxParts}} {
		p := rightPlans()[kind]
		for _, n := range []int{bounds[0], bounds[0] + 1, 100, bounds[1] - 1, bounds[1]} {
			p.N = n
			checkRight(t, p)
		}
		for _, n := range []int{bounds[0] - 1, bounds[1] + 1, -1, math.MinInt, math.MaxInt, 1 << 32} {
			p.N = n
			checkWrong(t, p)
		}
	}
}

// 24.2: values that are right and that are not; lists of MaxLen members and of one more.
func TestValuesOfPlans(t *testing.T) {
	for _, kind := range []int{api.PlanIter, api.PlanSteps} {
		p := rightPlans()[kind]
		for _, v := range []api.Value{none(), num(1), list(), sample.Nested(api.MaxDeep, num(1)), list(sample.Numbers(api.MaxParts - 1)...)} {
			p.Val = v
			checkRight(t, p)
		}
		for _, w := range sample.Wrongs() {
			p.Val = w
			checkWrong(t, p)
		}
	}
	long := sample.Numbers(api.MaxLen + 1)
	for _, kind := range []int{api.PlanList, api.PlanCycle} {
		p := rightPlans()[kind]
		for _, l := range [][]api.Value{nil, {}, {none()}, long[:api.MaxLen]} {
			p.List = l
			checkRight(t, p)
		}
		for _, w := range sample.Wrongs() {
			for _, l := range [][]api.Value{{w}, {num(1), w}, {w, num(1)}} {
				p.List = l
				checkWrong(t, p)
			}
		}
		p.List = long
		checkWrong(t, p)
	}
}

// deep is a plan n deep: one without subs is 0 deep, as with values.
func deep(n int) api.Plan {
	p := plainly(num(1))
	for range n {
		p = byFn(api.PlanMap, api.FnInc, p)
	}
	return p
}

// 24.2: plans nested MaxDeep deep, and one deeper, on the first way down and on the last.
func TestDeepPlans(t *testing.T) {
	for n := range api.MaxDeep + 1 {
		if e := lazy.Check(deep(n)); e != api.OK {
			t.Errorf("%d deep: %v", n, e)
		}
		checkRun(t, deep(n), 5, n+n, nums(int64(n)+1), 0)
	}
	for _, n := range []int{api.MaxDeep + 1, api.MaxDeep + 2, 40, 63, 64, 1000} {
		if e := lazy.Check(deep(n)); e != api.ErrForm {
			t.Errorf("%d deep: %v", n, e)
		}
		checkRunError(t, deep(n), 5, 99, api.ErrForm)
	}
	join := api.Plan{Kind: api.PlanJoin}
	for _, n := range []int{api.MaxDeep - 1, api.MaxDeep} {
		want := api.OK
		if n == api.MaxDeep {
			want = api.ErrForm
		}
		for _, p := range []api.Plan{of(join, deep(n), plainly()), of(join, plainly(), deep(3), deep(n)), of(join, plainly(), deep(n), plainly())} {
			if e := lazy.Check(p); e != want {
				t.Errorf("%d deep, in another: %v", n, e)
			}
		}
	}
}

// many is a plan of n plans in all, in two layers at most.
func many(n int) api.Plan {
	p := api.Plan{Kind: api.PlanJoin}
	for left := n - 1; left > 0; {
		sub := api.Plan{Kind: api.PlanTurn}
		left--
		for ; left > 0 && len(sub.Subs) < 15; left-- {
			sub.Subs = append(sub.Subs, plainly(num(int64(left))))
		}
		p.Subs = append(p.Subs, sub)
	}
	return p
}

// 24.2: plans of 64 plans, and of 65.
func TestManyPlans(t *testing.T) {
	for n := 1; n <= 64; n++ {
		if c, e := lazy.Build(many(n)); c == nil || e != api.OK {
			t.Errorf("of %d plans: %v", n, e)
		}
	}
	for n := 65; n < 90; n++ {
		if e := lazy.Check(many(n)); e != api.ErrForm {
			t.Errorf("of %d plans: %v", n, e)
		}
		checkRunError(t, many(n), 1, 99, api.ErrForm)
	}
	// Those of one plan and of the next are counted each by itself.
	for range 3 {
		checkRight(t, many(60))
	}
}

// P1: plans that have no end, and wider ones than can be gone over.
func TestPlansWithoutEnd(t *testing.T) {
	for _, kind := range []int{api.PlanMap, api.PlanJoin, api.PlanTurn} {
		subs := make([]api.Plan, 1)
		subs[0] = api.Plan{Kind: kind, Subs: subs}
		checkWrong(t, subs[0])
	}
	wide := plainly()
	for range api.MaxDeep {
		p := api.Plan{Kind: api.PlanJoin}
		for range 16 {
			p.Subs = append(p.Subs, wide)
		}
		wide = p
	}
	checkWrong(t, wide)
	loop := sample.Numbers(1)
	loop[0] = list(loop...)
	checkWrong(t, plainly(loop...))
	checkWrong(t, api.Plan{Kind: api.PlanIter, Val: loop[0]})
	checkWrong(t, api.Plan{Kind: api.PlanTake, Val: loop[0], Subs: []api.Plan{plainly()}})
}

// 24.2: n and fuel out of their bounds, behind a right plan; nothing else is wrong with them.
func TestNumbersOfRun(t *testing.T) {
	for _, p := range append(rightPlans(), api.Plan{}) {
		for _, n := range []int{-1, api.MaxLen + 1, math.MinInt, math.MaxInt} {
			for _, fuel := range []int{0, 1, api.MaxFuel, -1, api.MaxFuel + 1} {
				checkRunError(t, p, n, fuel, api.ErrArg)
			}
		}
		for _, fuel := range []int{-1, api.MaxFuel + 1, math.MinInt, math.MaxInt} {
			for _, n := range []int{0, 1, api.MaxLen} {
				checkRunError(t, p, n, fuel, api.ErrArg)
			}
		}
	}
	checkRun(t, upwards(0), api.MaxLen, api.MaxFuel, sample.Numbers(api.MaxLen), api.MaxFuel-api.MaxLen)
	checkRun(t, upwards(0), api.MaxLen, api.MaxLen, sample.Numbers(api.MaxLen), 0)
	checkRunError(t, upwards(0), api.MaxLen, api.MaxLen-1, api.ErrFuel)
	checkRunError(t, byN(api.PlanParts, api.MaxParts, upwards(0)), 1, api.MaxFuel, api.ErrLong)
}

// 24.2, R6: each Build says another seq, none of which is known by what was forced of the other; likewise each sub, also where two are the same.
func TestBuildIsNew(t *testing.T) {
	p := byFn(api.PlanMap, api.FnInc, upwards(0))
	a, b := must(t)(lazy.Build(p)), must(t)(lazy.Build(p))
	checkTake(t, a, 3, 6, nums(1, 2, 3), 0)
	checkKnown(t, b, 0, false)
	checkTake(t, b, 3, 6, nums(1, 2, 3), 0)
	for range 2 {
		checkRun(t, of(api.Plan{Kind: api.PlanTurn}, p, p), 4, 20, nums(1, 1, 2, 2), 8)
	}
	// Only those of a list are known from their beginning.
	for kind, p := range rightPlans() {
		if c := must(t)(lazy.Build(p)); cell.Forced(c) != (kind == api.PlanList) {
			t.Errorf("kind %d: known %v", kind, cell.Forced(c))
		}
	}
	checkKnown(t, must(t)(lazy.Build(plainly(nums(1, 2)...))), 2, true)
}

// R3: a plan is not changed, and nothing of it is kept.
func TestPlansStay(t *testing.T) {
	plans := func(v []api.Value) []api.Plan {
		return []api.Plan{plainly(v...), {Kind: api.PlanCycle, List: v}, {Kind: api.PlanIter, Val: v[0]}, of(api.Plan{Kind: api.PlanSteps, Fn: api.TwoLeft, Val: v[0]}, plainly(v...)), byFn(api.PlanKeep, api.IsAll, plainly(v...)), byN(api.PlanDrop, 0, plainly(v...))}
	}
	want := []api.Value{nested(), nested()}
	for i := range plans(want) {
		l := sample.RoomyAll(want)
		p := plans(l)[i]
		c := must(t)(lazy.Build(p))
		if e := lazy.Check(p); e != api.OK {
			t.Fatal(e)
		}
		told, _, _ := lazy.Run(p, 2, 9)
		if !sample.SameAll(l, want) || !sample.RoomKept(l) {
			t.Errorf("changed: %v", l)
		}
		sample.Spoil(l)
		p.List, p.Subs, p.Val = nil, nil, none()
		later, _, e := seq.Take(c, 2, 9)
		if !sample.SameAll(told, want) || !sample.SameAll(later, want) || e != api.OK {
			t.Errorf("kept: %v, %v, %v", told, later, e)
		}
	}
	// Subs that are written over later are not seen.
	subs := []api.Plan{upwards(0), plainly(num(9))}
	c := must(t)(lazy.Build(api.Plan{Kind: api.PlanTurn, Subs: subs}))
	subs[0], subs[1] = plainly(), plainly()
	checkTake(t, c, 3, 9, nums(0, 9, 1), 4)
}
