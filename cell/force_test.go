package cell

import (
	"testing"

	"spinney/api"
	"spinney/sample"
)

// What is told of a cell that is not known is what lies in it: no item and no rest yet, its step alone; once it is known, no step.
func TestWhatLiesInCells(t *testing.T) {
	at, _ := Iter(api.FnInc, sample.Num(0))
	for range 10 {
		if at.step == nil || at.rest != nil || !sample.Same(at.first, api.Value{}) {
			t.Fatalf("a cell that is not known: %v", at)
		}
		if _, _, ok, _, _ := Force(at, 1); !ok || at.step != nil || at.rest == nil || at.nested != 0 {
			t.Fatalf("a known cell: %v", at)
		}
		at = at.rest
	}
}

// The function is done when its cell is forced, not earlier: the step has what it is done upon.
func TestIteratedIsDoneLate(t *testing.T) {
	c, _ := Iter(api.FnInc, sample.Num(5))
	if s := c.step.(iterated); s.v.Num != 5 || s.times != 0 {
		t.Errorf("%v", s)
	}
	Ahead(c, 2, 2)
	if s := c.rest.rest.step.(iterated); s.v.Num != 6 || s.times != 1 {
		t.Errorf("%v", s)
	}
}

// own forces the cell in which it lies.
type own struct{ c *Cell }

func (s *own) Next(fuel int) (api.Value, *Cell, bool, int, api.Errno) { return Force(s.c, fuel) }

// A step that forces its own cell is asked as often as there is fuel, but no more than maxNested times one within the other; nothing of that is kept.
func TestNestedIsBounded(t *testing.T) {
	s := &own{}
	s.c = Later(s)
	for _, fuel := range []int{1, 100, maxNested, maxNested + 1, api.MaxFuel} {
		if _, _, _, _, e := Force(s.c, fuel); e != api.ErrFuel || s.c.nested != 0 || s.c.known() {
			t.Errorf("with %d: %v, %d", fuel, e, s.c.nested)
		}
	}
}
