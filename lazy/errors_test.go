package lazy_test

import (
	"math"
	"slices"
	"testing"

	"spinney/api"
	"spinney/cell"
	"spinney/lazy"
	"spinney/sample"
	"spinney/seq"
)

// told is a step that tells what a test has laid into it, and notes with which fuel it was asked.
type told struct {
	first  api.Value
	rest   *cell.Cell
	ok     bool
	spends int
	e      api.Errno
	asked  []int
}

func (s *told) Next(fuel int) (api.Value, *cell.Cell, bool, int, api.Errno) {
	s.asked = append(s.asked, fuel)
	return s.first, s.rest, s.ok, fuel - s.spends, s.e
}

// 24.1, R1: functions, questions and numbers that are none, of any cell; nothing is forced.
func TestWrongNumbers(t *testing.T) {
	step := &told{first: num(1), ok: true}
	for _, c := range []*cell.Cell{nil, cell.Empty(), listed(t, num(1)), cell.Later(step), numbers(t, 0)} {
		for _, fn := range sample.Beyond(api.FnHalf) {
			refused(t, api.ErrKind)(lazy.Map(fn, c))
		}
		for _, q := range sample.Beyond(api.IsNil) {
			refused(t, api.ErrKind)(lazy.Keep(q, c))
			refused(t, api.ErrKind)(lazy.While(q, c))
		}
		for _, fn := range sample.Beyond(api.TwoCount) {
			refused(t, api.ErrKind)(lazy.Steps(fn, num(1), c))
			// The function is looked at ahead of the value.
			for _, w := range sample.Wrongs() {
				refused(t, api.ErrKind)(lazy.Steps(fn, w, c))
			}
		}
		for fn := range api.TwoCount + 1 {
			for _, w := range sample.Wrongs() {
				refused(t, api.ErrValue)(lazy.Steps(fn, w, c))
			}
		}
		for _, n := range []int{-1, api.MaxLen + 1, math.MinInt, math.MaxInt, 1 << 32} {
			refused(t, api.ErrArg)(lazy.Take(n, c))
			refused(t, api.ErrArg)(lazy.Drop(n, c))
			refused(t, api.ErrArg)(lazy.Parts(n, c))
		}
		for _, n := range []int{0, -1, api.MaxParts + 1, api.MaxLen} {
			refused(t, api.ErrArg)(lazy.Parts(n, c))
		}
		for _, n := range []int{0, 1, api.MaxLen - 1, api.MaxLen} {
			must(t)(lazy.Take(n, c))
			must(t)(lazy.Drop(n, c))
		}
		for _, n := range []int{1, 2, api.MaxParts - 1, api.MaxParts} {
			must(t)(lazy.Parts(n, c))
		}
	}
	if len(step.asked) != 0 {
		t.Errorf("asked: %v", step.asked)
	}
}

// 24.1: lists of 16 cells, and of 17, whatever they are.
func TestListsOfCells(t *testing.T) {
	for _, c := range []*cell.Cell{nil, cell.Empty(), numbers(t, 0)} {
		l := slices.Repeat([]*cell.Cell{c}, 40)
		for n := range l {
			if n <= 16 {
				must(t)(lazy.Join(l[:n]))
				must(t)(lazy.Turn(l[:n]))
			} else {
				refused(t, api.ErrLong)(lazy.Join(l[:n]))
				refused(t, api.ErrLong)(lazy.Turn(l[:n]))
			}
		}
	}
	refused(t, api.ErrLong)(lazy.Join(make([]*cell.Cell, 100000)))
	refused(t, api.ErrLong)(lazy.Turn(make([]*cell.Cell, 100000)))
}

// 24.1, R1: lists of values: ErrLong, then ErrValue.
func TestListsOfValues(t *testing.T) {
	for _, w := range sample.Wrongs() {
		refused(t, api.ErrValue)(lazy.Cycle([]api.Value{w}))
		refused(t, api.ErrValue)(lazy.Cycle([]api.Value{num(1), w}))
	}
	long := sample.Numbers(api.MaxLen + 1)
	refused(t, api.ErrLong)(lazy.Cycle(long))
	c := must(t)(lazy.Cycle(long[:api.MaxLen]))
	if v, ok, left, e := seq.Nth(c, api.MaxLen-1, api.MaxLen); !ok || v.Num != api.MaxLen-1 || left != 0 || e != api.OK {
		t.Errorf("the last one: %v, %v, %d, %v", v, ok, left, e)
	}
	if v, ok, left, e := seq.Nth(c, api.MaxLen, 1); !ok || v.Num != 0 || left != 0 || e != api.OK {
		t.Errorf("behind the last one: %v, %v, %d, %v", v, ok, left, e)
	}
	long[5] = sample.Bool(2)
	refused(t, api.ErrLong)(lazy.Cycle(long))
	refused(t, api.ErrValue)(lazy.Cycle(long[:api.MaxLen]))
}

// 24.1, R6: nil cells are empty ones; each takes the fuel of its own cell alone.
func TestNilCells(t *testing.T) {
	for _, c := range []*cell.Cell{nil, {}, cell.Empty(), cell.Later(nil)} {
		for i, over := range []*cell.Cell{
			must(t)(lazy.Map(api.FnInc, c)), must(t)(lazy.Keep(api.IsAll, c)), must(t)(lazy.Take(5, c)), must(t)(lazy.Take(0, c)), must(t)(lazy.Drop(5, c)), must(t)(lazy.Drop(0, c)), must(t)(lazy.Parts(5, c)), must(t)(lazy.While(api.IsAll, c)),
			must(t)(lazy.Join([]*cell.Cell{c, nil, c})), must(t)(lazy.Turn([]*cell.Cell{c, nil, c})), must(t)(lazy.Join(nil)), must(t)(lazy.Turn(nil)),
		} {
			checkKnown(t, over, 0, false)
			checkError(t, over, 1, 0, api.ErrFuel)
			if l, left, e := seq.Take(over, 5, 5); len(l) != 0 || left != 4 || e != api.OK {
				t.Errorf("seq %d: %v, %d, %v", i, l, left, e)
			}
			checkKnown(t, over, 0, true)
		}
	}
}

// overOne are seqs of all kinds over a cell, each of which steps on two cells below for its first two items at most, and on its third one behind them.
func overOne(t *testing.T, c *cell.Cell) []*cell.Cell {
	t.Helper()
	return []*cell.Cell{
		must(t)(lazy.Map(api.FnInc, c)), must(t)(lazy.Keep(api.IsAll, c)), must(t)(lazy.Keep(api.IsNone, c)), must(t)(lazy.Take(9, c)), must(t)(lazy.Drop(0, c)), must(t)(lazy.Drop(2, c)), must(t)(lazy.Drop(3, c)), must(t)(lazy.Join([]*cell.Cell{nil, c})),
		must(t)(lazy.Parts(3, c)), must(t)(lazy.Parts(1, c)), must(t)(lazy.Parts(2, c)), must(t)(lazy.While(api.IsAll, c)), must(t)(lazy.Turn([]*cell.Cell{c})), must(t)(lazy.Turn([]*cell.Cell{c, c})), must(t)(lazy.Steps(api.TwoAdd, num(0), c)),
	}
}

// 24.1: an error of a cell that is stepped on is the step's error; what was forced by then stays known; a step that has come to itself is asked as if nothing had been.
func TestErrorsBelow(t *testing.T) {
	for _, e := range []api.Errno{api.ErrArg, api.ErrLong, api.ErrValue, api.ErrFuel, api.ErrPath, -1, 999} {
		for i := range overOne(t, nil) {
			step := &told{first: num(2), rest: listed(t, nums(3, 4)...), ok: true, e: e}
			below := cell.Later(&told{first: num(0), rest: cell.Later(&told{first: num(1), rest: cell.Later(step), ok: true}), ok: true})
			c := overOne(t, below)[i]
			checkError(t, c, 9, 99, e)
			checkError(t, c, 9, 99, e)
			checkKnown(t, below, 2, true)
			step.e = api.OK
			clean := overOne(t, listed(t, nums(0, 1, 2, 3, 4)...))[i]
			want, _, _ := seq.Take(clean, 9, 99)
			if l, _, e := seq.Take(c, 9, 99); !sample.SameAll(l, want) || e != api.OK {
				t.Errorf("seq %d: %v, %v; want %v", i, l, e, want)
			}
		}
	}
}

// P1: steps below that panic, tell items that are not right, or more fuel than there was.
func TestWrongStepsBelow(t *testing.T) {
	var nothing *told
	for i := range overOne(t, nil) {
		checkError(t, overOne(t, listed(t, nums(0, 1)...))[i], 9, 0, api.ErrFuel)
		upon := must(t)(cell.Cons(num(0), must(t)(cell.Cons(num(1), cell.Later(nothing)))))
		checkError(t, overOne(t, upon)[i], 9, 99, api.ErrArg)
		for _, w := range sample.Wrongs() {
			upon := must(t)(cell.Cons(num(0), must(t)(cell.Cons(num(1), cell.Later(&told{first: w, ok: true})))))
			checkError(t, overOne(t, upon)[i], 9, 99, api.ErrValue)
		}
		for _, spends := range []int{-100, math.MinInt + 200} {
			c := overOne(t, endless(spends))[i]
			if l, left, e := seq.Take(c, 5, 40); left >= 40 || e != api.OK && e != api.ErrFuel {
				t.Errorf("seq %d: %v, %d, %v", i, l, left, e)
			}
		}
	}
}

// endless is a seq without end whose steps say that so much was spent.
func endless(spends int) *cell.Cell {
	return cell.Later(endlessly(spends))
}

type endlessly int

func (s endlessly) Next(fuel int) (api.Value, *cell.Cell, bool, int, api.Errno) {
	return num(1), cell.Later(s), true, fuel - int(s), api.OK
}

// ring is a seq of so many cells ahead of those that lead back to themselves, all of one item but the last one.
func ring(ahead, long int, item, last api.Value) *cell.Cell {
	end := &told{first: last, ok: true}
	c := cell.Later(end)
	end.rest = c
	for range long - 1 {
		c = cell.Later(&told{first: item, rest: c, ok: true})
	}
	end.rest = c
	for range ahead {
		c = cell.Later(&told{first: item, rest: c, ok: true})
	}
	return c
}

// P1: cells that lead back to themselves: no fuel is taken once they are known, and yet every call ends.
func TestRings(t *testing.T) {
	for _, ahead := range []int{0, 1, 2, 3, 7, 100} {
		for _, long := range []int{1, 2, 3, 4, 5, 8, 17, 100} {
			for _, q := range []int{api.IsNone, api.IsText} {
				below := ring(ahead, long, num(1), num(2))
				c := must(t)(lazy.Keep(q, below))
				checkError(t, c, 1, ahead+long, api.ErrFuel)
				checkError(t, c, 1, ahead+long+1, api.ErrFuel)
				checkError(t, c, 1, api.MaxFuel, api.ErrFuel)
				checkError(t, must(t)(lazy.Keep(q, below)), 1, 1, api.ErrFuel)
			}
			// One item of the ring is kept: it comes again and again.
			c := must(t)(lazy.Keep(api.IsEven, ring(ahead, long, num(1), num(2))))
			checkTake(t, c, 3, 500, nums(2, 2, 2), 500-3-ahead-long)
			// All seqs over a ring come to their items.
			for i, over := range overOne(t, ring(ahead, long, num(2), num(2))) {
				if _, _, e := seq.Take(over, 50, 5000); e != api.OK && i != 2 || i == 2 && e != api.ErrFuel {
					t.Errorf("seq %d: %v", i, e)
				}
			}
		}
	}
}

// P1: a step that forces a lazy seq over its own cell.
func TestStepsThatForceThemselves(t *testing.T) {
	for i := range overOne(t, nil) {
		s := &self{}
		below := cell.Later(s)
		s.over = overOne(t, below)[i]
		for _, fuel := range []int{1, 2, 9, 1000, api.MaxFuel} {
			checkError(t, below, 1, fuel, api.ErrFuel)
		}
	}
}

// self is a step that forces a seq over its own cell.
type self struct{ over *cell.Cell }

func (s *self) Next(fuel int) (api.Value, *cell.Cell, bool, int, api.Errno) {
	_, rest, _, left, e := cell.Force(s.over, fuel)
	if e != api.OK {
		return none(), nil, false, 0, e
	}
	return cell.Force(rest, left)
}

// P1, and the bound: seqs over seqs, as many as may be nested in one another, of each kind.
func TestNestedSeqs(t *testing.T) {
	const n = 1 << 16
	for name, over := range map[string]func(*cell.Cell) (*cell.Cell, api.Errno){
		"map":   func(c *cell.Cell) (*cell.Cell, api.Errno) { return lazy.Map(api.FnSame, c) },
		"keep":  func(c *cell.Cell) (*cell.Cell, api.Errno) { return lazy.Keep(api.IsAll, c) },
		"take":  func(c *cell.Cell) (*cell.Cell, api.Errno) { return lazy.Take(5, c) },
		"drop":  func(c *cell.Cell) (*cell.Cell, api.Errno) { return lazy.Drop(0, c) },
		"join":  func(c *cell.Cell) (*cell.Cell, api.Errno) { return lazy.Join([]*cell.Cell{c}) },
		"while": func(c *cell.Cell) (*cell.Cell, api.Errno) { return lazy.While(api.IsAll, c) },
		"turn":  func(c *cell.Cell) (*cell.Cell, api.Errno) { return lazy.Turn([]*cell.Cell{c}) },
	} {
		c := numbers(t, 7)
		for range n {
			c = must(t)(over(c))
		}
		if _, _, e := seq.Take(c, 1, n); e != api.ErrFuel {
			t.Errorf("%s: %v", name, e)
		}
		if l, left, e := seq.Take(c, 1, n+1); !sample.SameAll(l, nums(7)) || left != 0 || e != api.OK {
			t.Errorf("%s: %v, %d, %v", name, l, left, e)
		}
	}
	// Steps and Parts, whose first items come from their own cells, or grow with each.
	c := numbers(t, 7)
	for range n {
		c = must(t)(lazy.Steps(api.TwoRight, num(1), c))
	}
	if l, _, e := seq.Take(c, 3, api.MaxFuel); !sample.SameAll(l, nums(1, 1, 1)) || e != api.OK {
		t.Errorf("steps: %v, %v", l, e)
	}
	d := numbers(t, 7)
	for range n {
		d = must(t)(lazy.Map(api.FnSize, must(t)(lazy.Parts(1, d))))
	}
	if l, left, e := seq.Take(d, 1, 2*n+1); !sample.SameAll(l, nums(1)) || left != 0 || e != api.OK {
		t.Errorf("parts: %v, %d, %v", l, left, e)
	}
}
