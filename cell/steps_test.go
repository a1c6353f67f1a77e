package cell_test

import (
	"spinney/api"
	"spinney/cell"
	"spinney/fns"
)

// told is a step that tells what a test has laid into it, and notes with which fuel it was asked.
type told struct {
	first  api.Value
	rest   *cell.Cell
	ok     bool
	spends int
	e      api.Errno
	asked  []int
}

func (s *told) Next(fuel int) (api.Value, *cell.Cell, bool, int, api.Errno) {
	s.asked = append(s.asked, fuel)
	return s.first, s.rest, s.ok, fuel - s.spends, s.e
}

// mapped is a step that forces a cell, and tells what a function makes of its item.
type mapped struct {
	fn int
	c  *cell.Cell
}

func (s mapped) Next(fuel int) (api.Value, *cell.Cell, bool, int, api.Errno) {
	first, rest, ok, left, e := cell.Force(s.c, fuel)
	if e != api.OK || !ok {
		return api.Value{}, nil, false, left, e
	}
	v, e := fns.One(s.fn, first)
	return v, cell.Later(mapped{s.fn, rest}), true, left, e
}

// reckless is a step that does what a test has laid into it.
type reckless func(fuel int) (api.Value, *cell.Cell, bool, int, api.Errno)

func (s reckless) Next(fuel int) (api.Value, *cell.Cell, bool, int, api.Errno) { return s(fuel) }
