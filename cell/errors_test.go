package cell_test

import (
	"math"
	"slices"
	"testing"

	"spinney/api"
	"spinney/cell"
	"spinney/sample"
)

// 22.2, 22.3: a step that tells an error: it is told on, with zeros; the cell stays as it was, and is asked again the next time.
func TestStepsErrors(t *testing.T) {
	for _, e := range []api.Errno{api.ErrArg, api.ErrLong, api.ErrValue, api.ErrNone, api.ErrFuel, api.ErrPath, 1, -1, 999, math.MaxInt} {
		step := &told{first: num(5), rest: numbers(t, 0), ok: true, e: e}
		c := cell.Later(step)
		upon := must(t)(cell.Cons(num(0), cell.Later(&told{first: num(1), rest: c, ok: true})))
		checkError(t, c, 9, e)
		checkAhead(t, c, 1, 9, 0, e)
		checkKnown(t, c, 0, false)
		// Ahead leaves off at the error: what it forced by then stays so.
		checkAhead(t, upon, 2, 9, 8, api.OK)
		checkAhead(t, upon, 3, 9, 0, e)
		checkAhead(t, upon, api.MaxLen, api.MaxFuel, 0, e)
		checkKnown(t, upon, 2, true)
		checkKnown(t, c, 0, false)
		// Without fuel the step is not asked.
		checkError(t, c, 0, api.ErrFuel)
		if !slices.Equal(step.asked, []int{8, 8, 8, api.MaxFuel - 1}) {
			t.Errorf("asked with %v", step.asked)
		}
		// A step that has come to itself is asked as if nothing had been.
		step.e = api.OK
		checkItem(t, c, 3, num(5), 2)
		checkAhead(t, upon, 3, 0, 0, api.OK)
	}
}

// 22.2, P8: what a step has forced ahead of its error stays known, and takes no fuel the next time.
func TestForcedAheadOfAnError(t *testing.T) {
	below := numbers(t, 0)
	fails := true
	c := cell.Later(reckless(func(fuel int) (api.Value, *cell.Cell, bool, int, api.Errno) {
		left, e := cell.Ahead(below, 3, fuel)
		if e == api.OK && fails {
			e = api.ErrPath
		}
		return str("done"), below, true, left, e
	}))
	// One for the cell itself, one for the first cell below: the second one finds no fuel.
	checkError(t, c, 2, api.ErrFuel)
	checkKnown(t, below, 1, true)
	checkKnown(t, c, 0, false)
	checkError(t, c, 2, api.ErrFuel)
	checkKnown(t, below, 2, true)
	checkError(t, c, 9, api.ErrPath)
	checkKnown(t, below, 3, true)
	checkKnown(t, c, 0, false)
	checkError(t, c, 1, api.ErrPath)
	fails = false
	if rest := checkItem(t, c, 1, str("done"), 0); rest != below {
		t.Errorf("another rest")
	}
	checkKnown(t, c, 4, true)
}

// 22.2: the fuel's end within a step, at each place: the seq over a seq stays as it was, the one below does not.
func TestFuelEndsWithin(t *testing.T) {
	for fuel := range 12 {
		below := numbers(t, 0)
		c := cell.Later(mapped{api.FnInc, below})
		checkAhead(t, c, 6, fuel, 0, api.ErrFuel)
		checkKnown(t, c, fuel/2, fuel > 1)
		checkKnown(t, below, fuel/2, fuel > 1)
		checkAhead(t, c, 6, 12-fuel+fuel%2, 0, api.OK)
		checkItems(t, c, sample.Numbers(7)[1:]...)
	}
}

// P1: steps that panic: nothing panics beside them, and the cell stays as it was.
func TestStepsThatPanic(t *testing.T) {
	var nothing *told
	var noMap map[string]int
	for _, step := range []cell.Step{
		nothing, reckless(nil),
		reckless(func(int) (api.Value, *cell.Cell, bool, int, api.Errno) { panic("a text") }),
		reckless(func(int) (api.Value, *cell.Cell, bool, int, api.Errno) { panic(nil) }),
		reckless(func(int) (api.Value, *cell.Cell, bool, int, api.Errno) { panic(api.ErrFuel) }),
		reckless(func(int) (api.Value, *cell.Cell, bool, int, api.Errno) {
			noMap["a"] = 1
			return none(), nil, false, 0, api.OK
		}),
		reckless(func(fuel int) (api.Value, *cell.Cell, bool, int, api.Errno) {
			return sample.Numbers(3)[fuel], nil, true, fuel, api.OK
		}),
	} {
		c := cell.Later(step)
		checkError(t, c, 9, api.ErrArg)
		checkAhead(t, must(t)(cell.Cons(num(1), c)), 2, 9, 0, api.ErrArg)
		checkKnown(t, c, 0, false)
		over := cell.Later(mapped{api.FnInc, c})
		checkError(t, over, 9, api.ErrArg)
		checkKnown(t, over, 0, false)
		checkError(t, c, 0, api.ErrFuel)
	}
	// One that panics while there is too much fuel tells what it knows with less.
	c := cell.Later(reckless(func(fuel int) (api.Value, *cell.Cell, bool, int, api.Errno) {
		return sample.Numbers(3)[fuel], nil, true, fuel, api.OK
	}))
	checkError(t, c, 4, api.ErrArg)
	checkItem(t, c, 3, num(2), 2)
}

// A step whose item is not right: the cell stays as it was, and no wrong value is told.
func TestStepsWrongItems(t *testing.T) {
	for _, w := range sample.Wrongs() {
		step := &told{first: w, rest: numbers(t, 0), ok: true}
		c := cell.Later(step)
		checkError(t, c, 9, api.ErrValue)
		checkAhead(t, c, 3, 9, 0, api.ErrValue)
		checkKnown(t, c, 0, false)
		// Its own error comes ahead.
		step.e = api.ErrPath
		checkError(t, c, 9, api.ErrPath)
		step.first, step.e = num(1), api.OK
		checkItem(t, c, 9, num(1), 8)
	}
	// A list that holds itself has no end: it is not gone into.
	loop := sample.Numbers(1)
	loop[0] = list(loop...)
	checkError(t, cell.Later(&told{first: loop[0], ok: true}), 9, api.ErrValue)
	refused(t, api.ErrValue)(cell.Cons(loop[0], nil))
	refused(t, api.ErrValue)(cell.Iter(api.FnSame, loop[0]))
}

// P1: what a step says is left is never more than it was handed, nor less than none: so whoever goes on while there is fuel comes to an end.
func TestStepsWrongFuel(t *testing.T) {
	for _, c := range []struct{ spends, fuel, left int }{
		{0, 9, 8}, {8, 9, 0}, {9, 9, 0}, {100, 9, 0}, {math.MaxInt, 9, 0}, {-1, 9, 8}, {-100, 9, 8}, {-math.MaxInt + 100, 9, 8}, {-1, api.MaxFuel, api.MaxFuel - 1}, {-1, 1, 0}, {1, 1, 0},
	} {
		one := func() *cell.Cell { return cell.Later(&told{first: num(1), ok: true, spends: c.spends}) }
		checkItem(t, one(), c.fuel, num(1), c.left)
		checkAhead(t, must(t)(cell.Cons(num(0), one())), 2, c.fuel, c.left, api.OK)
		checkEmpty(t, cell.Later(&told{spends: c.spends}), c.fuel, c.left)
		// The next cell finds no more than that.
		next := &told{first: num(2), ok: true}
		seq := cell.Later(&told{first: num(1), rest: cell.Later(next), ok: true, spends: c.spends})
		if left, e := cell.Ahead(seq, 2, c.fuel); c.left == 0 && e != api.ErrFuel || c.left > 0 && (e != api.OK || left != c.left-1) {
			t.Errorf("%v: %d left, %v", c, left, e)
		}
	}
}

// P1: a step that forces its own cell: it takes all of the fuel, and the cell stays as it was.
func TestStepsThatForceThemselves(t *testing.T) {
	var c, other *cell.Cell
	asked := 0
	c = cell.Later(reckless(func(fuel int) (api.Value, *cell.Cell, bool, int, api.Errno) {
		asked++
		return cell.Force(c, fuel)
	}))
	for _, fuel := range []int{0, 1, 2, 9, 1000} {
		asked = 0
		checkError(t, c, fuel, api.ErrFuel)
		if asked != fuel {
			t.Errorf("with %d: asked %d times", fuel, asked)
		}
	}
	checkError(t, c, api.MaxFuel, api.ErrFuel)
	checkAhead(t, c, 5, api.MaxFuel, 0, api.ErrFuel)
	checkKnown(t, c, 0, false)
	// By way of another one, it is the same.
	c = cell.Later(reckless(func(fuel int) (api.Value, *cell.Cell, bool, int, api.Errno) { return cell.Force(other, fuel) }))
	other = cell.Later(mapped{api.FnInc, c})
	for _, fuel := range []int{0, 1, 2, 9, api.MaxFuel} {
		checkError(t, c, fuel, api.ErrFuel)
		checkError(t, other, fuel, api.ErrFuel)
	}
	checkKnown(t, c, 0, false)
	checkKnown(t, other, 0, false)
}

// 22.4: a step within which its own cell becomes known comes too late: the cell tells what it told once.
func TestKnownWithinItsStep(t *testing.T) {
	for _, last := range []api.Errno{api.OK, api.ErrPath} {
		var c *cell.Cell
		deep := 0
		c = cell.Later(reckless(func(fuel int) (api.Value, *cell.Cell, bool, int, api.Errno) {
			deep++
			if deep == 3 {
				return str("inner"), nil, true, fuel, api.OK
			}
			cell.Force(c, fuel)
			return str("outer"), numbers(t, 0), true, fuel - 5, last
		}))
		if last == api.OK {
			checkEmpty(t, checkItem(t, c, 20, str("inner"), 14), 0, 0)
		} else {
			checkError(t, c, 20, last)
		}
		checkEmpty(t, checkItem(t, c, 0, str("inner"), 0), 0, 0)
		if deep != 3 {
			t.Errorf("asked %d times", deep)
		}
	}
}

// 22.3: a seq that leads back to itself has no end: Known and Ahead have one.
func TestRings(t *testing.T) {
	first := &told{first: num(1), ok: true}
	c := cell.Later(first)
	second := &told{first: num(2), rest: c, ok: true}
	first.rest = cell.Later(second)
	checkAhead(t, c, 1, 9, 8, api.OK)
	checkKnown(t, c, 1, true)
	checkAhead(t, c, 2, 9, 8, api.OK)
	checkKnown(t, c, api.MaxLen, true)
	checkAhead(t, c, api.MaxLen, 0, 0, api.OK)
	checkItems(t, c, num(1), num(2), num(1), num(2), num(1))
	if len(first.asked) != 1 || len(second.asked) != 1 {
		t.Errorf("asked %v, %v", first.asked, second.asked)
	}
}

// P1, and the bound: seqs over seqs, as many as may be nested in one another.
func TestNestedSteps(t *testing.T) {
	const n = 1 << 16
	c := numbers(t, 0)
	below := c
	for range n {
		c = cell.Later(mapped{api.FnInc, c})
	}
	checkError(t, c, n, api.ErrFuel)
	checkKnown(t, below, 0, false)
	checkItem(t, c, n+1, num(n), 0)
	checkKnown(t, below, 1, true)
	checkAhead(t, c, 2, api.MaxFuel, api.MaxFuel-n-1, api.OK)
}
