package lazy

import (
	"slices"

	"spinney/api"
	"spinney/cell"
	"spinney/fns"
	"spinney/seq"
	"spinney/value"
)

// chosen is a seq of which a function or a question is asked.
type chosen struct {
	fn int
	c  *cell.Cell
}

// counted is a seq of which so many items are asked for.
type counted struct {
	n int
	c *cell.Cell
}

// circle is a list of values, and the place of the next one.
type circle struct {
	l     []api.Value
	place int
}

// reduction is what a function of two values has come to, and what it goes on with.
type reduction struct {
	fn int
	v  api.Value
	c  *cell.Cell
}

// mapped finds what Map tells.
func mapped(from chosen, fuel int) told {
	t := on(from.c, fuel)
	if t.ok {
		t.first, t.e = fns.One(from.fn, t.first)
		t.rest = later(chosen{from.fn, t.rest}, mapped)
	}
	return t
}

// kept finds what Keep tells. It moves on in from, over the items that are not kept: where the fuel ends among them, nobody goes over them again, and nobody holds them.
func kept(from *chosen, fuel int) told {
	at, known := from.c, trail{}
	for {
		t := on(at, fuel)
		if !t.ok {
			return t
		}
		is, e := fns.Is(from.fn, t.first)
		if is || e != api.OK {
			t.rest, t.e = later(&chosen{from.fn, t.rest}, kept), e
			return t
		}
		if t.left < fuel {
			known = trail{}
		}
		if known.returns(t.rest) {
			return told{e: api.ErrFuel}
		}
		at, fuel = t.rest, t.left
		from.c = at
	}
}

// taken finds what Take tells.
func taken(from counted, fuel int) told {
	if from.n == 0 {
		return end(fuel)
	}
	t := on(from.c, fuel)
	if t.ok {
		t.rest = later(counted{from.n - 1, t.rest}, taken)
	}
	return t
}

// dropped finds what Drop tells.
func dropped(from counted, fuel int) told {
	behind, left, e := seq.Drop(from.c, from.n, fuel)
	if e != api.OK {
		return told{e: e}
	}
	return on(behind, left)
}

// joined finds what Join tells.
func joined(from []*cell.Cell, fuel int) told {
	for i, c := range from {
		t := on(c, fuel)
		if t.ok {
			t.rest = later(slices.Concat([]*cell.Cell{t.rest}, from[i+1:]), joined)
		}
		if t.ok || t.e != api.OK {
			return t
		}
		fuel = t.left
	}
	return end(fuel)
}

// parted finds what Parts tells.
func parted(from counted, fuel int) told {
	items, left, e := seq.Take(from.c, from.n, fuel)
	if e != api.OK || len(items) == 0 {
		return told{left: left, e: e}
	}
	part, e := value.List(items)
	if e != api.OK {
		return told{e: e}
	}
	// All cells of the part are known by now: this takes no fuel.
	behind, left, e := seq.Drop(from.c, len(items), left)
	return told{part, later(counted{from.n, behind}, parted), true, left, e}
}

// begun finds what While tells.
func begun(from chosen, fuel int) told {
	t := on(from.c, fuel)
	if !t.ok {
		return t
	}
	is, e := fns.Is(from.fn, t.first)
	if !is {
		return told{left: t.left, e: e}
	}
	t.rest = later(chosen{from.fn, t.rest}, begun)
	return t
}

// turned finds what Turn tells.
func turned(from []*cell.Cell, fuel int) told {
	if len(from) == 0 {
		return end(fuel)
	}
	t := on(from[0], fuel)
	if t.ok {
		t.rest = later(slices.Concat(from[1:], []*cell.Cell{t.rest}), turned)
	}
	return t
}

// cycled finds what Cycle tells.
func cycled(from circle, fuel int) told {
	if len(from.l) == 0 {
		return end(fuel)
	}
	next := circle{from.l, (from.place + 1) % len(from.l)}
	return told{from.l[from.place], later(next, cycled), true, fuel, api.OK}
}

// reduced finds the first item of Steps, what it begins with.
func reduced(from reduction, fuel int) told {
	return told{from.v, later(from, further), true, fuel, api.OK}
}

// further finds the other items of Steps.
func further(from reduction, fuel int) told {
	t := on(from.c, fuel)
	if !t.ok {
		return t
	}
	v, stops, e := fns.Two(from.fn, from.v, t.first)
	t.first, t.e = v, e
	if stops {
		t.rest = cell.Empty()
	} else {
		t.rest = later(reduction{from.fn, v, t.rest}, further)
	}
	return t
}
