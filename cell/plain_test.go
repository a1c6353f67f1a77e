package cell_test

import (
	"testing"

	"spinney/api"
	"spinney/cell"
	"spinney/sample"
)

// plain is a cell by the chapter's words alone: what it is, whether that is known, and what its step does.
type plain struct {
	known, empty bool
	item         api.Value
	rest         *plain
	// asks are the cells that its step forces, one behind the other; behind them it tells an error, so many times.
	asks  []*plain
	fails int
	// c is the cell that is held against it; step is its own step, nil if it is known from its beginning.
	c    *cell.Cell
	step *scripted
}

// force is what forcing it tells with some fuel: how much is left.
func (p *plain) force(fuel int) (int, api.Errno) {
	if p.known {
		return fuel, api.OK
	}
	if fuel == 0 {
		return 0, api.ErrFuel
	}
	fuel--
	for _, other := range p.asks {
		left, e := other.force(fuel)
		if e != api.OK {
			return 0, e
		}
		fuel = left
	}
	if p.fails > 0 {
		p.fails--
		return 0, api.ErrPath
	}
	p.known = true
	return fuel, api.OK
}

// ahead is what Ahead tells.
func (p *plain) ahead(n, fuel int) (int, api.Errno) {
	for range n {
		left, e := p.force(fuel)
		if e != api.OK {
			return 0, e
		}
		fuel = left
		if p.empty {
			break
		}
		p = p.rest
	}
	return fuel, api.OK
}

// items is how many items are known.
func (p *plain) items() int {
	n := 0
	for p.known && !p.empty {
		n++
		p = p.rest
	}
	return n
}

// scripted is the step of a plain cell, done by the package's own calls; it notes how often it told what its cell is.
type scripted struct {
	p     *plain
	fails int
	told  int
}

func (s *scripted) Next(fuel int) (api.Value, *cell.Cell, bool, int, api.Errno) {
	for _, other := range s.p.asks {
		_, _, _, left, e := cell.Force(other.c, fuel)
		if e != api.OK {
			return num(99), cell.Empty(), true, fuel, e
		}
		fuel = left
	}
	if s.fails > 0 {
		s.fails--
		return num(98), cell.Empty(), true, fuel, api.ErrPath
	}
	s.told++
	if s.p.empty {
		return num(97), cell.Empty(), false, fuel, api.OK
	}
	return s.p.item, s.p.rest.c, true, fuel, api.OK
}

// cells are n cells, each with one of those ahead of it for its rest, always the same ones for the same seed.
func cells(t *testing.T, seed uint64, n int) []*plain {
	t.Helper()
	s := sample.New(seed)
	end := &plain{known: true, empty: true, c: cell.Empty()}
	out := []*plain{end}
	for range n {
		last := out[len(out)-1]
		p := &plain{known: s.Below(4) == 0, empty: s.Below(12) == 0, item: s.Value(2), rest: last}
		if s.Below(8) == 0 {
			p.rest = out[s.Below(len(out))]
		}
		if !p.known {
			for range s.Below(6) - 2 {
				p.asks = append(p.asks, out[s.Below(len(out))])
			}
			if s.Below(6) == 0 {
				p.fails = 1 + s.Below(2)
			}
			p.step = &scripted{p: p, fails: p.fails}
			p.c = cell.Later(p.step)
		} else if p.empty {
			p.c = cell.Empty()
		} else {
			p.c = must(t)(cell.Cons(p.item, p.rest.c))
		}
		out = append(out, p)
	}
	return out
}

// checkForce forces a cell and the plain one: whether both tell the same.
func checkForce(t *testing.T, p *plain, fuel int) {
	t.Helper()
	left, e := p.force(fuel)
	switch {
	case e != api.OK:
		checkError(t, p.c, fuel, e)
	case p.empty:
		checkEmpty(t, p.c, fuel, left)
	default:
		if rest := checkItem(t, p.c, fuel, p.item, left); rest != p.rest.c {
			t.Fatalf("another rest")
		}
	}
}

// checkAll asks of each cell what is known of it, and whether its step told that once at most.
func checkAll(t *testing.T, all []*plain) {
	t.Helper()
	for i, p := range all {
		if cell.Forced(p.c) != p.known || cell.Known(p.c) != p.items() {
			t.Fatalf("cell %d: known %v, %d items; want %v, %d", i, cell.Forced(p.c), cell.Known(p.c), p.known, p.items())
		}
		if p.step != nil && p.step.told > 1 {
			t.Fatalf("cell %d: its step did its work %d times", i, p.step.told)
		}
	}
}

// P2, P3, P8, 22.2 to 22.5: cells in all states, with steps that force others and tell errors, are forced in any order, with little fuel and with much: what is told, what is left, what is known then.
func TestAgainstPlainCells(t *testing.T) {
	for seed := range uint64(300) {
		all := cells(t, seed, 25)
		s := sample.New(seed + 1000)
		for range 60 {
			p := all[s.Below(len(all))]
			fuel := s.Below(6)
			if s.Below(4) == 0 {
				fuel = s.Below(80)
			}
			if s.Below(2) == 0 {
				checkForce(t, p, fuel)
			} else {
				n := s.Below(8)
				left, e := p.ahead(n, fuel)
				checkAhead(t, p.c, n, fuel, left, e)
			}
			checkAll(t, all)
		}
		// In the end all is forced; what was known tells the same, without fuel.
		for _, p := range all {
			for !p.known {
				checkForce(t, p, api.MaxFuel)
			}
		}
		for _, p := range all {
			checkForce(t, p, 0)
		}
		checkAll(t, all)
	}
}

// 22.5: more fuel never makes less known, and tells the same, with so much more left.
func TestMoreFuel(t *testing.T) {
	for seed := range uint64(60) {
		n := 1 + int(seed)%10
		var before []bool
		done := false
		for fuel := range 60 {
			all := cells(t, seed, 25)
			left, e := cell.Ahead(all[len(all)-1].c, n, fuel)
			var now []bool
			for i, p := range all {
				now = append(now, cell.Forced(p.c))
				if before != nil && before[i] && !now[i] {
					t.Fatalf("seed %d: with %d less is known", seed, fuel)
				}
			}
			if done && (e != api.OK || left == 0) {
				t.Fatalf("seed %d: with %d: %d, %v", seed, fuel, left, e)
			}
			before, done = now, e == api.OK
		}
	}
}

// 22.5: building forces nothing; Cons, Forced and Known force nothing.
func TestNothingIsForced(t *testing.T) {
	step := &told{first: num(1), ok: true}
	c := cell.Later(step)
	upon := must(t)(cell.Cons(num(0), c))
	over := cell.Later(mapped{api.FnInc, upon})
	for range 3 {
		checkKnown(t, c, 0, false)
		checkKnown(t, upon, 1, true)
		checkKnown(t, over, 0, false)
		checkAhead(t, c, 0, 9, 9, api.OK)
		checkAhead(t, upon, 1, 9, 9, api.OK)
		checkItem(t, upon, 9, num(0), 9)
	}
	// The seq over it steps on its first cell alone, which is known.
	checkKnown(t, checkItem(t, over, 9, num(1), 8), 0, false)
	if len(step.asked) != 0 {
		t.Errorf("asked: %v", step.asked)
	}
}
