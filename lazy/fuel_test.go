package lazy_test

import (
	"testing"

	"spinney/api"
	"spinney/cell"
	"spinney/lazy"
	"spinney/sample"
	"spinney/seq"
)

// priced is a plan, and by hand what each of its cells takes, one behind the other; the last price is that of the empty one, if it has an end.
type priced struct {
	name   string
	p      api.Plan
	items  []api.Value
	prices []int
}

// plansWithPrices are plans of every kind.
func plansWithPrices() []priced {
	five := plainly(nums(1, 2, 3, 4, 5)...)
	two := byN(api.PlanTake, 2, upwards(0)) // 2, 2, 1: its own cell and one below; its last one steps on nothing
	return []priced{
		{"list", five, nums(1, 2, 3, 4, 5), []int{0, 0, 0, 0, 0, 0}},
		{"iter", upwards(3), nums(3, 4, 5), []int{1, 1, 1}},
		{"take 2", two, nums(0, 1), []int{2, 2, 1}},
		{"take 2 of a list", byN(api.PlanTake, 2, five), nums(1, 2), []int{1, 1, 1}},
		{"take 9 of a list", byN(api.PlanTake, 9, plainly(nums(1, 2)...)), nums(1, 2), []int{1, 1, 1}},
		{"take 9 of take 2", byN(api.PlanTake, 9, two), nums(0, 1), []int{3, 3, 2}},
		{"take 2 of take 9", byN(api.PlanTake, 2, byN(api.PlanTake, 9, upwards(0))), nums(0, 1), []int{3, 3, 1}},
		{"take 0", byN(api.PlanTake, 0, upwards(0)), nil, []int{1}},
		{"map of a list", byFn(api.PlanMap, api.FnInc, five), nums(2, 3, 4, 5, 6), []int{1, 1, 1, 1, 1, 1}},
		{"map of iter", byFn(api.PlanMap, api.FnNeg, upwards(0)), nums(0, -1, -2), []int{2, 2, 2}},
		{"map of map of take", byFn(api.PlanMap, api.FnNeg, byFn(api.PlanMap, api.FnInc, two)), nums(-1, -2), []int{4, 4, 3}},
		{"keep of a list", byFn(api.PlanKeep, api.IsEven, five), nums(2, 4), []int{1, 1, 1}},
		{"keep of iter", byFn(api.PlanKeep, api.IsEven, upwards(1)), nums(2, 4, 6), []int{3, 3, 3}},
		{"keep all", byFn(api.PlanKeep, api.IsAll, two), nums(0, 1), []int{3, 3, 2}},
		{"keep none", byFn(api.PlanKeep, api.IsNone, two), nil, []int{6}},
		{"keep some", byFn(api.PlanKeep, api.IsPos, byN(api.PlanTake, 4, upwards(-1))), nums(1, 2), []int{7, 3, 2}},
		{"while of a list", byFn(api.PlanWhile, api.IsInt, plainly(num(1), num(2), str("a"), num(3))), nums(1, 2), []int{1, 1, 1}},
		{"while of iter", byFn(api.PlanWhile, api.IsEven, upwards(2)), nums(2), []int{2, 2}},
		{"while of take", byFn(api.PlanWhile, api.IsInt, two), nums(0, 1), []int{3, 3, 2}},
		{"drop 0 of iter", byN(api.PlanDrop, 0, upwards(0)), nums(0, 1, 2), []int{2, 1, 1}},
		{"drop 2 of iter", byN(api.PlanDrop, 2, upwards(0)), nums(2, 3, 4), []int{4, 1, 1}},
		{"drop 3 of a list", byN(api.PlanDrop, 3, five), nums(4, 5), []int{1, 0, 0}},
		{"drop 5 of a list", byN(api.PlanDrop, 5, five), nil, []int{1}},
		{"drop 9 of a list", byN(api.PlanDrop, 9, five), nil, []int{1}},
		{"drop 1 of take 2", byN(api.PlanDrop, 1, two), nums(1), []int{5, 1}},
		{"drop 2 of take 2", byN(api.PlanDrop, 2, two), nil, []int{6}},
		{"drop 3 of take 2", byN(api.PlanDrop, 3, two), nil, []int{6}},
		{"drop of drop", byN(api.PlanDrop, 1, byN(api.PlanDrop, 2, upwards(0))), nums(3, 4), []int{6, 1}},
		{"join of none", of(api.Plan{Kind: api.PlanJoin}), nil, []int{1}},
		{"join of one", of(api.Plan{Kind: api.PlanJoin}, two), nums(0, 1), []int{3, 3, 2}},
		{"join of two", of(api.Plan{Kind: api.PlanJoin}, two, upwards(7)), nums(0, 1, 7, 8), []int{3, 3, 3, 2}},
		{"join of lists", of(api.Plan{Kind: api.PlanJoin}, plainly(), plainly(num(1)), plainly(), plainly(num(2)), plainly()), nums(1, 2), []int{1, 1, 1}},
		{"join of empty ones", of(api.Plan{Kind: api.PlanJoin}, byN(api.PlanTake, 0, five), byN(api.PlanDrop, 5, five), plainly()), nil, []int{3}},
		{"parts 1 of iter", byN(api.PlanParts, 1, upwards(0)), []api.Value{list(num(0)), list(num(1))}, []int{2, 2}},
		{"parts 2 of a list", byN(api.PlanParts, 2, five), []api.Value{list(nums(1, 2)...), list(nums(3, 4)...), list(num(5))}, []int{1, 1, 1, 1}},
		{"parts 3 of iter", byN(api.PlanParts, 3, upwards(0)), []api.Value{list(nums(0, 1, 2)...), list(nums(3, 4, 5)...)}, []int{4, 4}},
		{"parts 2 of take 3", byN(api.PlanParts, 2, byN(api.PlanTake, 3, upwards(0))), []api.Value{list(nums(0, 1)...), list(num(2))}, []int{5, 4, 1}},
		{"parts 2 of take 2", byN(api.PlanParts, 2, two), []api.Value{list(nums(0, 1)...)}, []int{5, 2}},
		{"parts of nothing", byN(api.PlanParts, 2, plainly()), nil, []int{1}},
		{"turn of none", of(api.Plan{Kind: api.PlanTurn}), nil, []int{1}},
		{"turn of one", of(api.Plan{Kind: api.PlanTurn}, two), nums(0, 1), []int{3, 3, 2}},
		{"turn of two", of(api.Plan{Kind: api.PlanTurn}, five, two), nums(1, 0, 2, 1, 3), []int{1, 3, 1, 3, 1, 2}},
		{"turn of three", of(api.Plan{Kind: api.PlanTurn}, upwards(0), plainly(num(7)), upwards(5)), nums(0, 7, 5, 1), []int{2, 1, 2, 2, 1}},
		{"cycle of none", api.Plan{Kind: api.PlanCycle}, nil, []int{1}},
		{"cycle of two", api.Plan{Kind: api.PlanCycle, List: nums(8, 9)}, nums(8, 9, 8, 9, 8), []int{1, 1, 1, 1, 1}},
		{"steps of a list", of(api.Plan{Kind: api.PlanSteps, Fn: api.TwoAdd, Val: num(10)}, plainly(nums(1, 2)...)), nums(10, 11, 13), []int{1, 1, 1, 1}},
		{"steps of iter", of(api.Plan{Kind: api.PlanSteps, Fn: api.TwoMax}, upwards(0)), []api.Value{none(), num(0), num(1)}, []int{1, 2, 2}},
		{"steps of take", of(api.Plan{Kind: api.PlanSteps, Fn: api.TwoAdd, Val: num(0)}, two), nums(0, 0, 1), []int{1, 3, 3, 2}},
		{"steps that stop", of(api.Plan{Kind: api.PlanSteps, Fn: api.TwoStop, Val: num(60)}, upwards(30)), nums(60, 90, 121), []int{1, 2, 2, 0}},
		{"keep of map of parts", byFn(api.PlanKeep, api.IsEven, byFn(api.PlanMap, api.FnSize, byN(api.PlanParts, 2, byN(api.PlanTake, 5, upwards(0))))), nums(2, 2), []int{7, 7, 8}},
	}
}

// sum is what the first n cells take.
func (c priced) sum(n int) int {
	total := 0
	for _, price := range c.prices[:n] {
		total += price
	}
	return total
}

// ends tells whether the last price is that of the empty cell.
func (c priced) ends() bool { return len(c.prices) > len(c.items) }

// P8, 24.2, 24.3: the fuel of each kind of seq, item by item: by Force with just enough, and with one less.
func TestPricesOfCells(t *testing.T) {
	for _, c := range plansWithPrices() {
		at := must(t)(lazy.Build(c.p))
		for i, price := range c.prices {
			// With nothing left over; what is below does not know of it yet.
			first, rest, ok, left, e := cell.Force(at, price)
			if ok != (i < len(c.items)) || left != 0 || e != api.OK || ok && !sample.Same(first, c.items[i]) {
				t.Fatalf("%s: cell %d with %d: %s, %v, %d left, %v", c.name, i, price, short(first), ok, left, e)
			}
			if _, _, again, left, e := cell.Force(at, 0); again != ok || left != 0 || e != api.OK {
				t.Fatalf("%s: cell %d again: %v, %d left, %v", c.name, i, again, left, e)
			}
			at = rest
		}
	}
}

// 24.3: each number of items, with each fuel: so much more is left as there is more; with less than it took ErrFuel.
func TestRunWithEachFuel(t *testing.T) {
	for _, c := range plansWithPrices() {
		for n := range len(c.items) + 1 {
			checkPrice(t, c, n, c.sum(n))
		}
		if c.ends() {
			checkPrice(t, c, len(c.items)+1, c.sum(len(c.prices)))
			checkPrice(t, c, api.MaxLen, c.sum(len(c.prices)))
		}
	}
}

// checkPrice runs a plan of which n items take that fuel.
func checkPrice(t *testing.T, c priced, n, price int) {
	t.Helper()
	want := c.items[:min(n, len(c.items))]
	for fuel := range price {
		if l, left, e := lazy.Run(c.p, n, fuel); l != nil || left != 0 || e != api.ErrFuel {
			t.Fatalf("%s: %d items with %d: %s, %d left, %v; want ErrFuel", c.name, n, fuel, short(l), left, e)
		}
	}
	for _, fuel := range []int{price, price + 1, price + 17, api.MaxFuel} {
		if l, left, e := lazy.Run(c.p, n, fuel); !sample.SameAll(l, want) || left != fuel-price || e != api.OK {
			t.Fatalf("%s: %d items with %d: %s, %d left, %v; want %s, %d left", c.name, n, fuel, short(l), left, e, short(want), fuel-price)
		}
	}
}

// 22.4, 23.5, P8: what was forced with too little fuel stays known: the cells below are paid once, the cell itself again.
func TestFuelInDrops(t *testing.T) {
	for _, c := range plansWithPrices() {
		if !c.ends() {
			c.prices = c.prices[:len(c.items)]
		}
		at := must(t)(lazy.Build(c.p))
		n := len(c.prices)
		// One more each time: it ends no later than with the whole price at once.
		for fuel := 0; ; fuel++ {
			l, left, e := seq.Take(at, n, fuel)
			if e == api.OK {
				if !sample.SameAll(l, c.items) || left > fuel {
					t.Fatalf("%s: with %d: %s, %d left", c.name, fuel, short(l), left)
				}
				break
			}
			if e != api.ErrFuel || fuel >= c.sum(n) {
				t.Fatalf("%s: with %d: %v", c.name, fuel, e)
			}
		}
		checkTake(t, at, n, 0, c.items, 0)
	}
}

// P8: which cells below are known when the fuel has ended, by hand.
func TestWhatStaysKnown(t *testing.T) {
	for _, c := range []struct {
		name string
		over func(*cell.Cell) (*cell.Cell, api.Errno)
		// known[i] is how many cells below are known behind a first call with fuel i.
		known []int
	}{
		{"map", func(c *cell.Cell) (*cell.Cell, api.Errno) { return lazy.Map(api.FnInc, c) }, []int{0, 0, 1, 1, 1}},
		{"keep", func(c *cell.Cell) (*cell.Cell, api.Errno) { return lazy.Keep(api.IsPos, c) }, []int{0, 0, 1, 2, 3, 4, 4, 4}},
		{"keep none", func(c *cell.Cell) (*cell.Cell, api.Errno) { return lazy.Keep(api.IsNone, c) }, []int{0, 0, 1, 2, 3, 4, 5, 6}},
		{"take", func(c *cell.Cell) (*cell.Cell, api.Errno) { return lazy.Take(3, c) }, []int{0, 0, 1, 1}},
		{"take 0", func(c *cell.Cell) (*cell.Cell, api.Errno) { return lazy.Take(0, c) }, []int{0, 0, 0}},
		{"drop", func(c *cell.Cell) (*cell.Cell, api.Errno) { return lazy.Drop(3, c) }, []int{0, 0, 1, 2, 3, 4, 4}},
		{"join", func(c *cell.Cell) (*cell.Cell, api.Errno) { return lazy.Join([]*cell.Cell{nil, c, c}) }, []int{0, 0, 1, 1}},
		{"parts", func(c *cell.Cell) (*cell.Cell, api.Errno) { return lazy.Parts(4, c) }, []int{0, 0, 1, 2, 3, 4, 4}},
		{"while", func(c *cell.Cell) (*cell.Cell, api.Errno) { return lazy.While(api.IsAll, c) }, []int{0, 0, 1, 1}},
		{"turn", func(c *cell.Cell) (*cell.Cell, api.Errno) { return lazy.Turn([]*cell.Cell{c, nil}) }, []int{0, 0, 1, 1}},
		{"steps", func(c *cell.Cell) (*cell.Cell, api.Errno) { return lazy.Steps(api.TwoAdd, num(0), c) }, []int{0, 0, 0}},
	} {
		for fuel, want := range c.known {
			below := numbers(t, -2)
			at := must(t)(c.over(below))
			checkKnown(t, below, 0, false)
			_, _, _, _, e := cell.Force(at, fuel)
			if e != api.OK && e != api.ErrFuel || cell.Known(below) != want {
				t.Errorf("%s with %d: %v, %d known below, want %d", c.name, fuel, e, cell.Known(below), want)
			}
			if (e == api.OK) != cell.Forced(at) {
				t.Errorf("%s with %d: %v, and known: %v", c.name, fuel, e, cell.Forced(at))
			}
		}
	}
}

// 24.5: building forces nothing; the first n items force no cell below that they do not need.
func TestLazily(t *testing.T) {
	below := numbers(t, 0)
	var all []*cell.Cell
	for _, build := range []func() (*cell.Cell, api.Errno){
		func() (*cell.Cell, api.Errno) { return lazy.Map(api.FnInc, below) }, func() (*cell.Cell, api.Errno) { return lazy.Keep(api.IsAll, below) }, func() (*cell.Cell, api.Errno) { return lazy.Take(5, below) }, func() (*cell.Cell, api.Errno) { return lazy.Drop(5, below) },
		func() (*cell.Cell, api.Errno) { return lazy.Join([]*cell.Cell{below, below}) }, func() (*cell.Cell, api.Errno) { return lazy.Parts(5, below) }, func() (*cell.Cell, api.Errno) { return lazy.While(api.IsAll, below) }, func() (*cell.Cell, api.Errno) { return lazy.Turn([]*cell.Cell{below, below}) }, func() (*cell.Cell, api.Errno) { return lazy.Steps(api.TwoAdd, num(0), below) },
	} {
		c := must(t)(build())
		checkKnown(t, c, 0, false)
		all = append(all, c)
	}
	for _, l := range [][]api.Value{nil, nums(1)} {
		checkKnown(t, must(t)(lazy.Cycle(l)), 0, false)
	}
	for _, c := range all {
		checkError(t, c, 1, 0, api.ErrFuel)
		checkTake(t, c, 0, 9, nil, 9)
		checkKnown(t, c, 0, false)
	}
	checkKnown(t, below, 0, false)
	// Take of n of c steps on c at most n times, however much is asked for.
	for n := range 10 {
		below := numbers(t, 0)
		checkItems(t, must(t)(lazy.Take(n, below)), sample.Numbers(n)...)
		checkKnown(t, below, n, n > 0)
	}
	// Of several cells only those are stepped on whose turn has come.
	first, second := numbers(t, 0), numbers(t, 0)
	checkTake(t, must(t)(lazy.Join([]*cell.Cell{first, second})), 3, 99, nums(0, 1, 2), 93)
	checkKnown(t, first, 3, true)
	checkKnown(t, second, 0, false)
	checkTake(t, must(t)(lazy.Turn([]*cell.Cell{first, second})), 5, 99, nums(0, 0, 1, 1, 2), 92)
	checkKnown(t, first, 3, true)
	checkKnown(t, second, 2, true)
	// Behind the end nothing is stepped on.
	third := numbers(t, 0)
	checkItems(t, must(t)(lazy.Turn([]*cell.Cell{listed(t, num(1)), nil, third})), num(1))
	checkItems(t, must(t)(lazy.While(api.IsNone, third)))
	checkKnown(t, third, 1, true)
	fourth := numbers(t, 0)
	checkItems(t, must(t)(lazy.Steps(api.TwoStop, num(100), fourth)), nums(100, 100, 101)...)
	checkKnown(t, fourth, 2, true)
}
