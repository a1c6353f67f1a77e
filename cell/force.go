package cell

import (
	"spinney/api"
	"spinney/fns"
	"spinney/rule"
	"spinney/value"
)

// maxNested is how often a step may force its own cell, one within the other. Nothing but the fuel's end comes of more, and they would take more room than there is.
const maxNested = 1 << 16

// iterated is the step of a cell of Iter: its first item is what a function makes of a value, done so many times (0 or 1).
type iterated struct {
	fn, times int
	v         api.Value
}

// Next does the function, no earlier than it is asked.
func (s iterated) Next(fuel int) (api.Value, *Cell, bool, int, api.Errno) {
	first, e := fns.Times(s.fn, s.times, s.v)
	return first, Later(iterated{fn: s.fn, times: 1, v: first}), true, fuel, e
}

// own is the cell itself, or an empty one in place of nil.
func (c *Cell) own() *Cell {
	if c == nil {
		return Empty()
	}
	return c
}

func (c *Cell) known() bool { return c.step == nil }

// force makes the cell known, with some fuel: how much of it is left.
func (c *Cell) force(fuel int) (int, api.Errno) {
	if c.known() {
		return fuel, api.OK
	}
	if fuel == 0 || c.nested == maxNested {
		return 0, api.ErrFuel
	}
	c.nested++
	found, left, e := asked(c.step, fuel-1)
	c.nested--
	if e != api.OK {
		return 0, e
	}
	// A step that forced its own cell comes too late: what is known stays as it is.
	if !c.known() {
		c.step, c.first, c.rest = nil, found.first, found.rest
	}
	return left, api.OK
}

// asked is the known cell that a step tells, and how much of the fuel is left. Steps are not this package's own: one that panics has told ErrArg, one whose item is not right ErrValue, and none gives back more fuel than it had, lest a call that goes on while there is fuel never end.
func asked(s Step, fuel int) (found Cell, left int, e api.Errno) {
	defer func() {
		if recover() != nil {
			found, left, e = Cell{}, 0, api.ErrArg
		}
	}()
	first, rest, ok, left, e := s.Next(fuel)
	left = min(max(left, 0), fuel)
	if e != api.OK || !ok {
		return Cell{}, left, e
	}
	if e := value.Check(first); e != api.OK {
		return Cell{}, 0, e
	}
	return Cell{first: rule.Copy(first), rest: rest.own()}, left, api.OK
}
