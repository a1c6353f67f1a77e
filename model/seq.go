package model

import (
	"spinney/api"
	"spinney/fns"
)

// Seq is a plain seq: the items that were found by now, whether it ends behind them, and how the next one is found, with some fuel.
type Seq struct {
	found []api.Value
	ended bool
	next  func(fuel int) (v api.Value, there bool, left int, e api.Errno)
}

// SeqOf is a seq of items that are known.
func SeqOf(l []api.Value) *Seq { return &Seq{found: l, ended: true} }

// Iterated is a value, what a function makes of it, what it makes of that, and so on.
func Iterated(fn int, v api.Value) *Seq {
	s := &Seq{}
	s.next = func(fuel int) (api.Value, bool, int, api.Errno) {
		w, e := fns.Times(fn, len(s.found), v)
		return w, true, fuel, e
	}
	return s
}

// Mapped is what a function makes of each item.
func (s *Seq) Mapped(fn int) *Seq {
	out := &Seq{}
	out.next = func(fuel int) (api.Value, bool, int, api.Errno) {
		v, there, left, e := s.at(len(out.found), fuel)
		if there {
			v, e = fns.One(fn, v)
		}
		return v, there, left, e
	}
	return out
}

// Kept are the items of which a question is true.
func (s *Seq) Kept(q int) *Seq {
	passed := 0
	return &Seq{next: func(fuel int) (api.Value, bool, int, api.Errno) {
		for {
			v, there, left, e := s.at(passed, fuel)
			if !there {
				return v, false, left, e
			}
			passed, fuel = passed+1, left
			if is, _ := fns.Is(q, v); is {
				return v, true, left, api.OK
			}
		}
	}}
}

// at is the item in a place, with some fuel, and the fuel that is left; false, if the seq ends ahead of it.
func (s *Seq) at(place, fuel int) (api.Value, bool, int, api.Errno) {
	for len(s.found) <= place && !s.ended {
		if fuel == 0 {
			return api.Value{}, false, 0, api.ErrFuel
		}
		v, there, left, e := s.next(fuel - 1)
		if e != api.OK {
			return api.Value{}, false, 0, e
		}
		fuel, s.ended = left, !there
		if there {
			s.found = append(s.found, v)
		}
	}
	if place >= len(s.found) {
		return api.Value{}, false, fuel, api.OK
	}
	return s.found[place], true, fuel, api.OK
}

// Take are the first items, at most so many, with some fuel, and the fuel that is left.
func (s *Seq) Take(n, fuel int) ([]api.Value, int, api.Errno) {
	var out []api.Value
	for len(out) < n {
		v, there, left, e := s.at(len(out), fuel)
		if e != api.OK {
			return nil, 0, e
		}
		fuel = left
		if !there {
			break
		}
		out = append(out, v)
	}
	return out, fuel, api.OK
}
