package cell_test

import (
	"math"
	"slices"
	"testing"

	"spinney/api"
	"spinney/cell"
	"spinney/sample"
)

// wrongFuels are numbers that are no fuel.
func wrongFuels() []int {
	return []int{-1, api.MaxFuel + 1, math.MinInt, math.MaxInt, -api.MaxFuel, 1 << 32, -1 << 32}
}

// 22.6, 22.2, 22.3: with fuel f just f cells of an Iter are known: by Ahead of more of them, of as many, and by Force one by one.
func TestFuelOfIter(t *testing.T) {
	for f := range 60 {
		c := numbers(t, 0)
		checkAhead(t, c, f+1, f, 0, api.ErrFuel)
		checkKnown(t, c, f, f > 0)
		c = numbers(t, 0)
		checkAhead(t, c, api.MaxLen, f, 0, api.ErrFuel)
		checkKnown(t, c, f, f > 0)
		c = numbers(t, 0)
		checkAhead(t, c, f, f, 0, api.OK)
		checkKnown(t, c, f, f > 0)
		c = numbers(t, 0)
		fuel, at := f, c
		for {
			_, rest, ok, left, e := cell.Force(at, fuel)
			if e == api.ErrFuel {
				break
			}
			if !ok || left != fuel-1 || e != api.OK {
				t.Fatalf("Force with %d: %v, %d, %v", fuel, ok, left, e)
			}
			fuel, at = left, rest
		}
		checkKnown(t, c, f, f > 0)
	}
}

// 22.3: fuel 0, one less than enough, just enough, more, and MaxFuel.
func TestAheadOfIter(t *testing.T) {
	for _, n := range []int{0, 1, 2, 3, 10, 100, api.MaxLen} {
		c := numbers(t, 0)
		if n > 0 {
			checkAhead(t, c, n, 0, 0, api.ErrFuel)
			checkKnown(t, c, 0, false)
			checkAhead(t, c, n, n-1, 0, api.ErrFuel)
			checkKnown(t, c, n-1, n > 1)
			// What was forced stays so: one more is enough.
			checkAhead(t, c, n, 1, 0, api.OK)
		}
		checkKnown(t, c, n, n > 0)
		checkAhead(t, c, n, 0, 0, api.OK)
		for _, fuel := range []int{n, n + 1, n + 7, api.MaxFuel} {
			c := numbers(t, 0)
			checkAhead(t, c, n, fuel, fuel-n, api.OK)
			checkKnown(t, c, n, n > 0)
			checkAhead(t, c, n, fuel, fuel, api.OK)
		}
	}
}

// 22.3: Ahead of more cells than a seq has: the cell that is found to be empty takes one, too, unless it was known.
func TestAheadBeyondTheEnd(t *testing.T) {
	for _, lazyEnd := range []bool{false, true} {
		end, taken := cell.Empty(), 3
		if lazyEnd {
			end, taken = cell.Later(&told{}), 4
		}
		for _, n := range []int{4, 5, 100, api.MaxLen} {
			for _, fuel := range []int{taken, taken + 1, 50, api.MaxFuel} {
				if lazyEnd {
					end = cell.Later(&told{})
				}
				c := tens(end)
				checkAhead(t, c, n, fuel, fuel-taken, api.OK)
				checkKnown(t, c, 3, true)
				if !cell.Forced(end) {
					t.Errorf("the end is not known")
				}
				checkAhead(t, c, n, 0, 0, api.OK)
			}
		}
	}
	// Of just as many cells as there are items the end is not asked.
	end := &told{}
	last := cell.Later(end)
	c := tens(last)
	checkAhead(t, c, 3, 9, 6, api.OK)
	checkAhead(t, c, 4, 0, 0, api.ErrFuel)
	if len(end.asked) != 0 || cell.Forced(last) {
		t.Errorf("the end was asked: %v", end.asked)
	}
	checkAhead(t, c, 4, 1, 0, api.OK)
	checkItems(t, c, num(10), num(20), num(30))
}

// tens is a seq of 10, 20, 30, not known, upon an end.
func tens(end *cell.Cell) *cell.Cell {
	for _, n := range []int64{30, 20, 10} {
		end = cell.Later(&told{first: num(n), rest: end, ok: true})
	}
	return end
}

// 22.3, 22.4: upon cells of which some are known: they take no fuel, wherever they stand.
func TestAheadUponKnownOnes(t *testing.T) {
	// The letters say of each cell whether it is known from its beginning.
	for _, form := range []string{"k", "l", "kl", "lk", "klk", "lkl", "kkll", "llkk", "lklklk", "kkkkk", "lllll"} {
		for n := range len(form) + 3 {
			c := cell.Empty()
			for i := len(form) - 1; i >= 0; i-- {
				if form[i] == 'k' {
					c = must(t)(cell.Cons(num(int64(i)), c))
				} else {
					c = cell.Later(&told{first: num(int64(i)), rest: c, ok: true})
				}
			}
			need := 0
			for _, letter := range form[:min(n, len(form))] {
				if letter == 'l' {
					need++
				}
			}
			if need > 0 {
				checkAhead(t, c, n, need-1, 0, api.ErrFuel)
				checkAhead(t, c, n, 1, 0, api.OK)
			} else {
				checkAhead(t, c, n, 0, 0, api.OK)
			}
			checkAhead(t, c, n, 20, 20, api.OK)
			checkItems(t, c, sample.Numbers(min(n, len(form)))...)
		}
	}
	// One cell in the middle, forced by itself, ahead of those that lead to it.
	third := cell.Later(&told{first: num(3), ok: true})
	second := cell.Later(&told{first: num(2), rest: third, ok: true})
	first := cell.Later(&told{first: num(1), rest: second, ok: true})
	checkItem(t, second, 1, num(2), 0)
	checkKnown(t, first, 0, false)
	checkKnown(t, second, 1, true)
	checkAhead(t, first, 2, 1, 0, api.OK)
	checkKnown(t, first, 2, true)
	checkAhead(t, first, 3, 5, 4, api.OK)
}

// 22.4: Ahead of n and then of n more takes as much as Ahead of both at once, from the first cell.
func TestAheadInTwo(t *testing.T) {
	for n := range 12 {
		for m := range 12 {
			for _, begin := range []func() *cell.Cell{
				func() *cell.Cell { return numbers(t, 0) },
				func() *cell.Cell { return tens(cell.Later(&told{spends: 1})) },
				func() *cell.Cell { return cell.Later(mapped{api.FnNeg, numbers(t, 3)}) },
				func() *cell.Cell { return known(t, sample.Numbers(5)...) },
			} {
				whole, parted := begin(), begin()
				both, e := cell.Ahead(whole, n+m, 100)
				first, f := cell.Ahead(parted, n, 100)
				second, g := cell.Ahead(parted, n+m, first)
				if both != second || e != api.OK || f != api.OK || g != api.OK || cell.Known(whole) != cell.Known(parted) {
					t.Fatalf("Ahead of %d and %d: %d left, at once %d", n, m, second, both)
				}
			}
		}
	}
}

// 22.4, P3: what was forced takes no fuel again, and tells the same for ever, whatever is made of it and whatever else is forced.
func TestOnce(t *testing.T) {
	c := numbers(t, 0)
	checkAhead(t, c, 5, 5, 0, api.OK)
	var rests []*cell.Cell
	for i, at := int64(0), c; i < 5; i++ {
		at = checkItem(t, at, 0, num(i), 0)
		rests = append(rests, at)
	}
	for more := range 4 {
		checkAhead(t, must(t)(cell.Cons(str("a"), c)), cell.Known(c)+1, 0, 0, api.OK)
		// A seq over it takes one for each cell of its own, and one for the cell below that is not known.
		checkAhead(t, cell.Later(mapped{api.FnNeg, c}), 6+more, 99, 99-6-more-1, api.OK)
		checkAhead(t, c, 6+more, 0, 0, api.OK)
		checkAhead(t, c, 7+more, 0, 0, api.ErrFuel)
		for i, at := int64(0), c; i < 5; i++ {
			rest := checkItem(t, at, 3, num(i), 3)
			if rest != rests[i] {
				t.Errorf("another rest of %d", i)
			}
			at = rest
		}
	}
}

// 22.3: Known, and Ahead, of seqs of about MaxLen items, all of them known.
func TestKnownOfManyItems(t *testing.T) {
	c := cell.Empty()
	for n := range api.MaxLen + 4 {
		if n < 4 || n > api.MaxLen-4 {
			checkKnown(t, c, min(n, api.MaxLen), true)
			checkAhead(t, c, api.MaxLen, 0, 0, api.OK)
		}
		c = must(t)(cell.Cons(num(1), c))
	}
	// Of one that has no end, forced further than Known tells.
	it := numbers(t, 0)
	checkAhead(t, it, api.MaxLen, api.MaxLen, 0, api.OK)
	checkKnown(t, it, api.MaxLen, true)
	at := it
	for i := range int64(api.MaxLen) {
		at = checkKnownItem(t, at, num(i))
	}
	checkKnown(t, at, 0, false)
	checkAhead(t, at, 100, 100, 0, api.OK)
	checkKnown(t, it, api.MaxLen, true)
	checkKnown(t, at, 100, true)
	checkAhead(t, it, api.MaxLen, 0, 0, api.OK)
}

// checkKnownItem is checkItem without fuel, and without going over what is known behind it.
func checkKnownItem(t *testing.T, c *cell.Cell, want api.Value) *cell.Cell {
	t.Helper()
	first, rest, ok, left, e := cell.Force(c, 0)
	if !sample.Same(first, want) || rest == nil || !ok || left != 0 || e != api.OK {
		t.Fatalf("%s, %v, %d left, %v; want %s", short(first), ok, left, e, short(want))
	}
	return rest
}

// R1, R4: fuel and n out of their bounds, of any cell, a known one too; nothing is asked.
func TestWrongFuel(t *testing.T) {
	step := &told{first: num(1), ok: true}
	lazy := cell.Later(step)
	for _, c := range []*cell.Cell{nil, cell.Empty(), known(t, num(1), num(2)), lazy, numbers(t, 0)} {
		for _, fuel := range wrongFuels() {
			checkError(t, c, fuel, api.ErrArg)
			for _, n := range []int{0, 1, api.MaxLen, -1, api.MaxLen + 1} {
				checkAhead(t, c, n, fuel, 0, api.ErrArg)
			}
		}
		for _, n := range []int{-1, api.MaxLen + 1, math.MinInt, math.MaxInt, 1 << 32} {
			for _, fuel := range []int{0, 1, api.MaxFuel, -1} {
				checkAhead(t, c, n, fuel, 0, api.ErrArg)
			}
		}
	}
	if len(step.asked) != 0 {
		t.Errorf("asked: %v", step.asked)
	}
	checkKnown(t, lazy, 0, false)
	checkItem(t, lazy, 1, num(1), 0)
	if !slices.Equal(step.asked, []int{0}) {
		t.Errorf("asked: %v", step.asked)
	}
}
