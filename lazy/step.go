package lazy

import (
	"spinney/api"
	"spinney/cell"
)

// told is what a step tells of its cell: that it is empty, or a first item and a rest beside ok; the fuel that is left; an error in place of all that.
type told struct {
	first api.Value
	rest  *cell.Cell
	ok    bool
	left  int
	e     api.Errno
}

// step is the step of all seqs of this layer: what is still to be gone through, and how the next item is found in it.
type step[S any] struct {
	from S
	next func(from S, fuel int) told
}

// Next makes it a cell's step.
func (s step[S]) Next(fuel int) (api.Value, *cell.Cell, bool, int, api.Errno) {
	t := s.next(s.from, fuel)
	return t.first, t.rest, t.ok, t.left, t.e
}

// later is the seq whose items next finds.
func later[S any](from S, next func(from S, fuel int) told) *cell.Cell {
	return cell.Later(step[S]{from: from, next: next})
}

// on is what a cell tells that is stepped on.
func on(c *cell.Cell, fuel int) told {
	first, rest, ok, left, e := cell.Force(c, fuel)
	return told{first, rest, ok, left, e}
}

// end is what is told of an empty cell.
func end(left int) told { return told{left: left} }
