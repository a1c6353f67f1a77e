package lazy_test

import (
	"testing"

	"spinney/api"
	"spinney/cell"
	"spinney/fns"
	"spinney/lazy"
	"spinney/sample"
	"spinney/seq"
	"spinney/value"
)

// plain is a seq by the chapter's words alone, without cells: its items by their places.
type plain interface {
	// at is the item in a place, with some fuel: false, if the seq ends ahead of it; the fuel that is left.
	at(place, fuel int) (api.Value, bool, int, api.Errno)
	// known is how many items can be told without fuel.
	known() int
}

// found are the items of a plain seq that were found by now; next finds the one behind them, or that there is none.
type found struct {
	items []api.Value
	ended bool
	next  func(place, fuel int) (api.Value, bool, int, api.Errno)
}

func (f *found) known() int { return len(f.items) }

func (f *found) at(place, fuel int) (api.Value, bool, int, api.Errno) {
	for len(f.items) <= place && !f.ended {
		if fuel == 0 {
			return none(), false, 0, api.ErrFuel
		}
		v, ok, left, e := f.next(len(f.items), fuel-1)
		if e != api.OK {
			return none(), false, 0, e
		}
		fuel = left
		if ok {
			f.items = append(f.items, v)
		} else {
			f.ended = true
		}
	}
	if place >= len(f.items) {
		return none(), false, fuel, api.OK
	}
	return f.items[place], true, fuel, api.OK
}

func plainList(l []api.Value) plain { return &found{items: l, ended: true} }

func plainIter(fn int, v api.Value) plain {
	return &found{next: func(place, fuel int) (api.Value, bool, int, api.Errno) {
		w, e := fns.Times(fn, place, v)
		return w, true, fuel, e
	}}
}

func plainMap(fn int, p plain) plain {
	return &found{next: func(place, fuel int) (api.Value, bool, int, api.Errno) {
		v, ok, left, e := p.at(place, fuel)
		if ok {
			v, _ = fns.One(fn, v)
		}
		return v, ok, left, e
	}}
}

func plainKeep(q int, p plain) plain {
	from := 0
	return &found{next: func(_, fuel int) (api.Value, bool, int, api.Errno) {
		for i := from; ; i++ {
			v, ok, left, e := p.at(i, fuel)
			if !ok {
				return v, ok, left, e
			}
			fuel = left
			if is, _ := fns.Is(q, v); is {
				from = i + 1
				return v, true, fuel, api.OK
			}
		}
	}}
}

func plainTake(n int, p plain) plain {
	return &found{next: func(place, fuel int) (api.Value, bool, int, api.Errno) {
		if place == n {
			return none(), false, fuel, api.OK
		}
		return p.at(place, fuel)
	}}
}

func plainWhile(q int, p plain) plain {
	return &found{next: func(place, fuel int) (api.Value, bool, int, api.Errno) {
		v, ok, left, e := p.at(place, fuel)
		if is, _ := fns.Is(q, v); ok && !is {
			return none(), false, left, api.OK
		}
		return v, ok, left, e
	}}
}

// dropped has one cell of its own: what is behind it are those below.
type dropped struct {
	first *found
	n     int
	p     plain
}

func plainDrop(n int, p plain) plain {
	return dropped{n: n, p: p, first: &found{next: func(_, fuel int) (api.Value, bool, int, api.Errno) { return p.at(n, fuel) }}}
}

func (d dropped) known() int {
	if len(d.first.items) == 0 {
		return 0
	}
	return d.p.known() - d.n
}

func (d dropped) at(place, fuel int) (api.Value, bool, int, api.Errno) {
	v, ok, left, e := d.first.at(0, fuel)
	if place == 0 || !ok {
		return v, ok, left, e
	}
	return d.p.at(d.n+place, left)
}

func plainJoin(l []plain) plain {
	which, from := 0, 0
	return &found{next: func(_, fuel int) (api.Value, bool, int, api.Errno) {
		for i, at := which, from; i < len(l); i, at = i+1, 0 {
			v, ok, left, e := l[i].at(at, fuel)
			if e != api.OK {
				return v, ok, left, e
			}
			fuel = left
			if ok {
				which, from = i, at+1
				return v, true, fuel, api.OK
			}
		}
		return none(), false, fuel, api.OK
	}}
}

func plainParts(n int, p plain) plain {
	return &found{next: func(place, fuel int) (api.Value, bool, int, api.Errno) {
		var part []api.Value
		for i := place * n; i < place*n+n; i++ {
			v, ok, left, e := p.at(i, fuel)
			if e != api.OK {
				return none(), false, 0, e
			}
			fuel = left
			if !ok {
				break
			}
			part = append(part, v)
		}
		if len(part) > 0 && value.Check(list(part...)) != api.OK {
			return none(), false, 0, api.ErrLong
		}
		return list(part...), len(part) > 0, fuel, api.OK
	}}
}

func plainTurn(l []plain) plain {
	return &found{next: func(place, fuel int) (api.Value, bool, int, api.Errno) {
		if len(l) == 0 {
			return none(), false, fuel, api.OK
		}
		return l[place%len(l)].at(place/len(l), fuel)
	}}
}

func plainCycle(l []api.Value) plain {
	return &found{next: func(place, fuel int) (api.Value, bool, int, api.Errno) {
		if len(l) == 0 {
			return none(), false, fuel, api.OK
		}
		return l[place%len(l)], true, fuel, api.OK
	}}
}

func plainSteps(fn int, v api.Value, p plain) plain {
	f := &found{}
	f.next = func(place, fuel int) (api.Value, bool, int, api.Errno) {
		if place == 0 {
			return v, true, fuel, api.OK
		}
		x, ok, left, e := p.at(place-1, fuel)
		if !ok {
			return x, ok, left, e
		}
		w, stops, _ := fns.Two(fn, f.items[place-1], x)
		// The cell behind is a known empty one.
		f.ended = stops
		return w, true, left, api.OK
	}
	return f
}

// plainTale is a seq of steps from elsewhere, each of which tells an error some times ahead of its item.
func plainTale(l []api.Value, spends, fails []int) plain {
	return &found{next: func(place, fuel int) (api.Value, bool, int, api.Errno) {
		if fails[place] > 0 {
			fails[place]--
			return none(), false, 0, api.ErrPath
		}
		left := max(fuel-spends[place], 0)
		if place == len(l) {
			return none(), false, left, api.OK
		}
		return l[place], true, left, api.OK
	}}
}

// tale is the same as a step of a cell.
type tale struct {
	l             []api.Value
	spends, fails []int
	place         int
}

func (s *tale) Next(fuel int) (api.Value, *cell.Cell, bool, int, api.Errno) {
	if s.fails[s.place] > 0 {
		s.fails[s.place]--
		return num(99), cell.Empty(), true, fuel, api.ErrPath
	}
	left := fuel - s.spends[s.place]
	if s.place == len(s.l) {
		return num(98), cell.Empty(), false, left, api.OK
	}
	return s.l[s.place], cell.Later(&tale{s.l, s.spends, s.fails, s.place + 1}), true, left, api.OK
}

// both is a seq, and what is held against it.
type both struct {
	c *cell.Cell
	p plain
}

// ground is a seq that is made of no other.
func ground(t *testing.T, s *sample.Source) both {
	t.Helper()
	l := s.Values(s.Below(7), 1)
	for i := range l {
		if s.Below(2) == 0 {
			l[i] = num(int64(s.Below(60) - 10))
		}
	}
	switch s.Below(5) {
	case 0:
		return both{listed(t, l...), plainList(l)}
	case 1:
		fn, v := s.Below(api.FnHalf+1), s.Value(2)
		return both{must(t)(cell.Iter(fn, v)), plainIter(fn, v)}
	case 2:
		n := int64(s.Below(20) - 10)
		return both{numbers(t, n), plainIter(api.FnInc, num(n))}
	case 3:
		return both{must(t)(lazy.Cycle(l)), plainCycle(l)}
	}
	spends, fails, again := make([]int, len(l)+1), make([]int, len(l)+1), make([]int, len(l)+1)
	for i := range fails {
		spends[i] = max(0, s.Below(6)-3)
		fails[i] = max(0, s.Below(8)-5)
		again[i] = fails[i]
	}
	return both{cell.Later(&tale{l, spends, fails, 0}), plainTale(l, spends, again)}
}

// over is a seq that is made of others.
func over(t *testing.T, s *sample.Source, all []both) both {
	t.Helper()
	one := all[s.Below(len(all))]
	var cells []*cell.Cell
	var plains []plain
	for range s.Below(5) {
		b := all[s.Below(len(all))]
		cells, plains = append(cells, b.c), append(plains, b.p)
	}
	n := s.Below(5)
	switch s.Below(9) {
	case 0:
		fn := s.Below(api.FnHalf + 1)
		return both{must(t)(lazy.Map(fn, one.c)), plainMap(fn, one.p)}
	case 1:
		q := s.Below(api.IsNil + 1)
		return both{must(t)(lazy.Keep(q, one.c)), plainKeep(q, one.p)}
	case 2:
		return both{must(t)(lazy.Take(n, one.c)), plainTake(n, one.p)}
	case 3:
		return both{must(t)(lazy.Drop(n, one.c)), plainDrop(n, one.p)}
	case 4:
		return both{must(t)(lazy.Join(cells)), plainJoin(plains)}
	case 5:
		return both{must(t)(lazy.Parts(n+1, one.c)), plainParts(n+1, one.p)}
	case 6:
		q := s.Below(api.IsNil + 1)
		return both{must(t)(lazy.While(q, one.c)), plainWhile(q, one.p)}
	case 7:
		return both{must(t)(lazy.Turn(cells)), plainTurn(plains)}
	}
	fn, v := s.Below(api.TwoCount+1), s.Value(1)
	return both{must(t)(lazy.Steps(fn, v, one.c)), plainSteps(fn, v, one.p)}
}

// takeOf is what seq.Take tells of a plain seq.
func takeOf(p plain, n, fuel int) ([]api.Value, int, api.Errno) {
	var out []api.Value
	for i := range n {
		v, ok, left, e := p.at(i, fuel)
		if e != api.OK {
			return nil, 0, e
		}
		fuel = left
		if !ok {
			break
		}
		out = append(out, v)
	}
	return out, fuel, api.OK
}

// P2, P3, P8, 24.1, 24.4, 24.5: seqs of all kinds, over one another and over shared ones, over steps that tell errors, are asked in any order, with little fuel and with much: what is told, what is left, what is known then of each of them.
func TestAgainstPlainLists(t *testing.T) {
	for seed := range uint64(1500) {
		s := sample.New(seed)
		var all []both
		for range 3 {
			all = append(all, ground(t, s))
		}
		for range 8 {
			all = append(all, over(t, s, all))
		}
		for range 25 {
			b := all[s.Below(len(all))]
			n, fuel := s.Below(7), s.Below(12)
			if s.Below(4) == 0 {
				fuel = s.Below(150)
			}
			want, wantLeft, wantError := takeOf(b.p, n, fuel)
			l, left, e := seq.Take(b.c, n, fuel)
			if !sample.SameAll(l, want) || left != wantLeft || e != wantError {
				t.Fatalf("seed %d: %d items with %d: %s, %d left, %v; want %s, %d left, %v", seed, n, fuel, short(l), left, e, short(want), wantLeft, wantError)
			}
			for i, b := range all {
				if known := cell.Known(b.c); known != b.p.known() {
					t.Fatalf("seed %d: of seq %d %d items are known, want %d", seed, i, known, b.p.known())
				}
			}
		}
	}
}

// plan is a plan, and the plain seq that it says; some deep.
func plan(s *sample.Source, deep int) (api.Plan, plain) {
	if deep == 0 {
		return groundPlan(s)
	}
	kinds := []int{api.PlanMap, api.PlanKeep, api.PlanTake, api.PlanDrop, api.PlanJoin, api.PlanParts, api.PlanWhile, api.PlanTurn, api.PlanSteps}
	p := api.Plan{Kind: kinds[s.Below(len(kinds))]}
	if p.Kind == api.PlanJoin || p.Kind == api.PlanTurn {
		var plains []plain
		for range s.Below(4) {
			sub, q := plan(s, s.Below(deep))
			p.Subs, plains = append(p.Subs, sub), append(plains, q)
		}
		if p.Kind == api.PlanJoin {
			return p, plainJoin(plains)
		}
		return p, plainTurn(plains)
	}
	sub, q := plan(s, deep-1)
	p.Subs = []api.Plan{sub}
	switch p.Kind {
	case api.PlanMap:
		p.Fn = s.Below(api.FnHalf + 1)
		return p, plainMap(p.Fn, q)
	case api.PlanKeep:
		p.Fn = s.Below(api.IsNil + 1)
		return p, plainKeep(p.Fn, q)
	case api.PlanWhile:
		p.Fn = s.Below(api.IsNil + 1)
		return p, plainWhile(p.Fn, q)
	case api.PlanSteps:
		p.Fn, p.Val = s.Below(api.TwoCount+1), s.Value(1)
		return p, plainSteps(p.Fn, p.Val, q)
	}
	p.N = 1 + s.Below(4)
	switch p.Kind {
	case api.PlanTake:
		return p, plainTake(p.N, q)
	case api.PlanDrop:
		return p, plainDrop(p.N, q)
	}
	return p, plainParts(p.N, q)
}

func groundPlan(s *sample.Source) (api.Plan, plain) {
	l := s.Values(s.Below(6), 1)
	switch s.Below(4) {
	case 0:
		return plainly(l...), plainList(l)
	case 1:
		return api.Plan{Kind: api.PlanCycle, List: l}, plainCycle(l)
	case 2:
		n := int64(s.Below(9))
		return upwards(n), plainIter(api.FnInc, num(n))
	}
	fn, v := s.Below(api.FnHalf+1), s.Value(2)
	return api.Plan{Kind: api.PlanIter, Fn: fn, Val: v}, plainIter(fn, v)
}

// 24.2, 24.3, 24.4: plans of all kinds: what Run tells with each fuel, up to more than enough; what it tells with some it tells with more.
func TestPlansAgainstPlainLists(t *testing.T) {
	for seed := range uint64(800) {
		p, _ := plan(sample.New(seed), 4)
		if e := lazy.Check(p); e != api.OK {
			t.Fatalf("seed %d: %v", seed, e)
		}
		n := int(seed) % 6
		took := -1
		for fuel := 0; fuel < 120; fuel++ {
			_, q := plan(sample.New(seed), 4)
			want, wantLeft, wantError := takeOf(q, n, fuel)
			l, left, e := lazy.Run(p, n, fuel)
			if !sample.SameAll(l, want) || left != wantLeft || e != wantError {
				t.Fatalf("seed %d: %d items with %d: %s, %d left, %v; want %s, %d left, %v", seed, n, fuel, short(l), left, e, short(want), wantLeft, wantError)
			}
			switch {
			case e == api.OK && took < 0:
				took = fuel
				fallthrough
			case e == api.OK:
				if left != fuel-took {
					t.Fatalf("seed %d: it took %d, but with %d %d are left", seed, took, fuel, left)
				}
			case took >= 0:
				t.Fatalf("seed %d: it took %d, but with %d: %v", seed, took, fuel, e)
			}
		}
	}
}
