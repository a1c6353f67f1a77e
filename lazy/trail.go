package lazy

import "spinney/cell"

// trail is what was passed of known cells. They take no fuel, and a step from elsewhere may have let them lead back to themselves: then nothing new ever comes, and no fuel ends it.
type trail struct {
	passed int
	mark   *cell.Cell
}

// returns tells of the next cell whether it is the marked one again. The mark is moved on after ever longer stretches, so that a ring of any length fits into one of them.
func (t *trail) returns(c *cell.Cell) bool {
	if c == t.mark {
		return true
	}
	t.passed++
	if t.passed&(t.passed-1) == 0 {
		t.mark = c
	}
	return false
}
