package seq_test

import (
	"spinney/api"
	"spinney/cell"
)

// told is a step that tells what a test has laid into it, and notes with which fuel it was asked.
type told struct {
	first  api.Value
	rest   *cell.Cell
	ok     bool
	spends int
	e      api.Errno
	asked  []int
}

func (s *told) Next(fuel int) (api.Value, *cell.Cell, bool, int, api.Errno) {
	s.asked = append(s.asked, fuel)
	return s.first, s.rest, s.ok, fuel - s.spends, s.e
}

// form says of each cell of a seq whether it is known from its beginning (k) or lazy (l); the last letter is that of the empty one.
type form string

// seq is a seq of that form whose items are the numbers from 0 on.
func (f form) seq() *cell.Cell {
	var c *cell.Cell
	for i := len(f) - 1; i >= 0; i-- {
		first, ok := num(int64(i)), i < len(f)-1
		switch {
		case f[i] == 'l':
			c = cell.Later(&told{first: first, rest: c, ok: ok})
		case ok:
			c, _ = cell.Cons(first, c)
		default:
			c = cell.Empty()
		}
	}
	return c
}

// items is how many items it has.
func (f form) items() int { return len(f) - 1 }

// cost is the fuel that its first n cells take.
func (f form) cost(n int) int {
	lazy := 0
	for _, letter := range f[:min(n, len(f))] {
		if letter == 'l' {
			lazy++
		}
	}
	return lazy
}

// knownWith is how many items are known when it was forced as far as some fuel leads, but no further than n cells.
func (f form) knownWith(fuel, n int) int {
	items := 0
	for items < f.items() && (f[items] == 'k' || items < n && f.cost(items+1) <= fuel) {
		items++
	}
	return items
}

// forms are all forms of at most so many items.
func forms(items int) []form {
	var out []form
	for _, f := range append([]form{""}, formsOf(items)...) {
		out = append(out, f+"k", f+"l")
	}
	return out
}

func formsOf(letters int) []form {
	if letters == 0 {
		return nil
	}
	out := []form{"k", "l"}
	for _, f := range formsOf(letters - 1) {
		out = append(out, f+"k", f+"l")
	}
	return out
}
