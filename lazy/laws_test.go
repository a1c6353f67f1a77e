package lazy_test

import (
	"testing"

	"spinney/api"
	"spinney/cell"
	"spinney/fns"
	"spinney/lazy"
	"spinney/sample"
	"spinney/seq"
)

const (
	lawItems = 8
	lawFuel  = 1000
)

// checkLaw holds the first items of two seqs against each other; what would take fuel without end must do so on both sides.
func checkLaw(t *testing.T, law string, seed uint64, a, b *cell.Cell) {
	t.Helper()
	x, _, e := seq.Take(a, lawItems, lawFuel)
	y, _, f := seq.Take(b, lawItems, lawFuel)
	if !sample.SameAll(x, y) || e != f {
		t.Fatalf("seed %d: %s: %s, %v, and %s, %v", seed, law, short(x), e, short(y), f)
	}
	if same, _, e := seq.Same(a, b, lawItems, lawFuel); f == api.OK && (!same || e != api.OK) {
		t.Fatalf("seed %d: %s: they are the same, but Same tells %v, %v", seed, law, same, e)
	}
}

// eachSeq hands on seqs of all kinds, always the same ones; each call of fresh makes it anew.
func eachSeq(t *testing.T, try func(seed uint64, s *sample.Source, fresh func() *cell.Cell)) {
	t.Helper()
	for seed := range uint64(300) {
		p, _ := plan(sample.New(seed), int(seed)%3)
		try(seed, sample.New(seed+1000), func() *cell.Cell {
			t.Helper()
			return must(t)(lazy.Build(p))
		})
	}
}

// 24.6, P9
func TestLawsOfMapAndKeep(t *testing.T) {
	eachSeq(t, func(seed uint64, s *sample.Source, fresh func() *cell.Cell) {
		f, g := s.Below(api.FnHalf+1), s.Below(api.FnHalf+1)
		p, q := s.Below(api.IsNil+1), s.Below(api.IsNil+1)
		mapped := must(t)(lazy.Map(f, must(t)(lazy.Map(g, fresh()))))
		if below, _, e := seq.Take(fresh(), lawItems, lawFuel); e == api.OK {
			var want []api.Value
			for _, v := range below {
				once, _ := fns.One(g, v)
				twice, _ := fns.One(f, once)
				want = append(want, twice)
			}
			checkLaw(t, "Map of Map", seed, mapped, listed(t, want...))
		}
		checkLaw(t, "Map of the same", seed, must(t)(lazy.Map(api.FnSame, fresh())), fresh())
		checkLaw(t, "Map turned about twice", seed, must(t)(lazy.Map(api.FnNeg, must(t)(lazy.Map(api.FnNeg, fresh())))), fresh())
		checkLaw(t, "Keep of Keep", seed, must(t)(lazy.Keep(p, must(t)(lazy.Keep(q, fresh())))), must(t)(lazy.Keep(q, must(t)(lazy.Keep(p, fresh())))))
		checkLaw(t, "Keep of the same Keep", seed, must(t)(lazy.Keep(p, must(t)(lazy.Keep(p, fresh())))), must(t)(lazy.Keep(p, fresh())))
		checkLaw(t, "Keep of all", seed, must(t)(lazy.Keep(api.IsAll, fresh())), fresh())
		checkLaw(t, "While of Keep", seed, must(t)(lazy.While(p, must(t)(lazy.Keep(p, fresh())))), must(t)(lazy.Keep(p, fresh())))
	})
}

// 24.6, P9
func TestLawsOfTakeAndDrop(t *testing.T) {
	eachSeq(t, func(seed uint64, s *sample.Source, fresh func() *cell.Cell) {
		for range 6 {
			m, n := s.Below(7), s.Below(7)
			checkLaw(t, "Take of Take", seed, must(t)(lazy.Take(m, must(t)(lazy.Take(n, fresh())))), must(t)(lazy.Take(min(m, n), fresh())))
			checkLaw(t, "Drop of Drop", seed, must(t)(lazy.Drop(m, must(t)(lazy.Drop(n, fresh())))), must(t)(lazy.Drop(m+n, fresh())))
			joined := must(t)(lazy.Join([]*cell.Cell{must(t)(lazy.Take(n, fresh())), must(t)(lazy.Drop(n, fresh()))}))
			checkLaw(t, "Join of Take and Drop", seed, joined, fresh())
			// Of one and the same seq, too.
			c := fresh()
			checkLaw(t, "Join of Take and Drop of one", seed, must(t)(lazy.Join([]*cell.Cell{must(t)(lazy.Take(n, c)), must(t)(lazy.Drop(n, c))})), c)
			if behind, _, e := seq.Drop(fresh(), n, lawFuel); e == api.OK {
				checkLaw(t, "both Drops", seed, must(t)(lazy.Drop(n, fresh())), behind)
			}
		}
	})
}

// 24.4, P9
func TestLawsOfJoinPartsAndTurn(t *testing.T) {
	eachSeq(t, func(seed uint64, s *sample.Source, fresh func() *cell.Cell) {
		fn, n := s.Below(api.FnHalf+1), 1+s.Below(4)
		few := func() *cell.Cell { return must(t)(lazy.Take(n, fresh())) }
		checkLaw(t, "Join of one", seed, must(t)(lazy.Join([]*cell.Cell{fresh()})), fresh())
		checkLaw(t, "Turn of one", seed, must(t)(lazy.Turn([]*cell.Cell{fresh()})), fresh())
		checkLaw(t, "Join of Join", seed, must(t)(lazy.Join([]*cell.Cell{few(), must(t)(lazy.Join([]*cell.Cell{few(), fresh()}))})), must(t)(lazy.Join([]*cell.Cell{must(t)(lazy.Join([]*cell.Cell{few(), few()})), fresh()})))
		checkLaw(t, "Map of Join", seed, must(t)(lazy.Map(fn, must(t)(lazy.Join([]*cell.Cell{few(), fresh()})))), must(t)(lazy.Join([]*cell.Cell{must(t)(lazy.Map(fn, few())), must(t)(lazy.Map(fn, fresh()))})))
		checkLaw(t, "Map of Turn", seed, must(t)(lazy.Map(fn, must(t)(lazy.Turn([]*cell.Cell{few(), fresh()})))), must(t)(lazy.Turn([]*cell.Cell{must(t)(lazy.Map(fn, few())), must(t)(lazy.Map(fn, fresh()))})))
		checkLaw(t, "the first of Parts of 1", seed, must(t)(lazy.Map(api.FnFirst, must(t)(lazy.Parts(1, fresh())))), fresh())
		if parts, _, e := seq.Take(must(t)(lazy.Parts(n, fresh())), lawItems, lawFuel); e == api.OK {
			var all []api.Value
			for _, part := range parts {
				all = append(all, part.Items...)
			}
			checkLaw(t, "Parts put together", seed, listed(t, all...), must(t)(lazy.Take(n*lawItems, fresh())))
		}
		checkLaw(t, "Steps by the right ones", seed, must(t)(lazy.Drop(1, must(t)(lazy.Steps(api.TwoRight, num(0), fresh())))), fresh())
	})
}

// 23.5, 24.6: with seqs of this layer: Take of n, and then of Drop of n, is Take of both together, for as much fuel; and again without.
func TestTakeInTwo(t *testing.T) {
	eachSeq(t, func(seed uint64, s *sample.Source, fresh func() *cell.Cell) {
		n, m, fuel := s.Below(5), s.Below(5), s.Below(60)
		whole, cut := fresh(), fresh()
		want, left, e := seq.Take(whole, n+m, fuel)
		ahead, leftAhead, f := seq.Take(cut, n, fuel)
		if f != api.OK {
			if e != f {
				t.Fatalf("seed %d: %v, in two %v", seed, e, f)
			}
			return
		}
		behind, leftAgain, f := seq.Drop(cut, n, leftAhead)
		if leftAgain != leftAhead || f != api.OK {
			t.Fatalf("seed %d: Drop of what was taken took %d, %v", seed, leftAhead-leftAgain, f)
		}
		rest, leftBehind, f := seq.Take(behind, m, leftAhead)
		if e != f || e == api.OK && (left != leftBehind || !sample.SameAll(want, append(ahead, rest...))) {
			t.Fatalf("seed %d: %s, %d left, %v; in two %s and %s, %d left, %v", seed, short(want), left, e, short(ahead), short(rest), leftBehind, f)
		}
		if e == api.OK {
			checkTake(t, whole, n+m, 0, want, 0)
		}
	})
}

// P3: what is made of a seq, and forced, changes nothing that it tells.
func TestOlderOnesStay(t *testing.T) {
	eachSeq(t, func(seed uint64, s *sample.Source, fresh func() *cell.Cell) {
		c := fresh()
		n := s.Below(4)
		before, _, e := seq.Take(c, n, 200)
		if e != api.OK {
			return
		}
		known := cell.Known(c)
		for _, over := range overOne(t, c) {
			seq.Take(over, s.Below(6), s.Below(60))
			checkTake(t, c, n, 0, before, 0)
			if now := cell.Known(c); now < known {
				t.Fatalf("seed %d: less is known", seed)
			}
		}
		x, _, e := seq.Take(c, lawItems, lawFuel)
		if y, _, f := seq.Take(fresh(), lawItems, lawFuel); e != f || !sample.SameAll(x, y) {
			t.Fatalf("seed %d: %s, %v; by itself %s, %v", seed, short(x), e, short(y), f)
		}
	})
}
