package seq_test

import (
	"fmt"
	"testing"

	"spinney/api"
	"spinney/cell"
	"spinney/fns"
	"spinney/hash"
	"spinney/sample"
	"spinney/seq"
)

func none() api.Value                   { return api.Value{} }
func num(n int64) api.Value             { return sample.Num(n) }
func str(s string) api.Value            { return sample.Str(s) }
func list(items ...api.Value) api.Value { return sample.List(items...) }

// nums are numbers as values.
func nums(l ...int64) []api.Value {
	var out []api.Value
	for _, n := range l {
		out = append(out, num(n))
	}
	return out
}

// short is what a failing test shows of something that may be long.
func short(x any) string {
	s := fmt.Sprint(x)
	return s[:min(len(s), 200)]
}

// must is a cell that came without an error.
func must(t *testing.T) func(*cell.Cell, api.Errno) *cell.Cell {
	return func(c *cell.Cell, e api.Errno) *cell.Cell {
		t.Helper()
		if c == nil || e != api.OK {
			t.Fatalf("no cell: %v", e)
		}
		return c
	}
}

// numbers are the numbers from n on, each one more, without end.
func numbers(t *testing.T, n int64) *cell.Cell {
	t.Helper()
	return must(t)(cell.Iter(api.FnInc, num(n)))
}

// listed is a seq of a list.
func listed(t *testing.T, l ...api.Value) *cell.Cell {
	t.Helper()
	return must(t)(seq.List(l))
}

// checkTake takes items, and finds those that are wanted.
func checkTake(t *testing.T, c *cell.Cell, n, fuel int, want []api.Value, wantLeft int) {
	t.Helper()
	if l, left, e := seq.Take(c, n, fuel); !sample.SameAll(l, want) || left != wantLeft || e != api.OK {
		t.Fatalf("Take of %d with %d: %s, %d left, %v; want %s, %d left", n, fuel, short(l), left, e, short(want), wantLeft)
	}
}

// checkCount counts items.
func checkCount(t *testing.T, c *cell.Cell, most, fuel, want, wantLeft int) {
	t.Helper()
	if n, left, e := seq.Count(c, most, fuel); n != want || left != wantLeft || e != api.OK {
		t.Fatalf("Count of %d with %d: %d, %d left, %v; want %d, %d left", most, fuel, n, left, e, want, wantLeft)
	}
}

// checkNth finds an item.
func checkNth(t *testing.T, c *cell.Cell, i, fuel int, want api.Value, wantLeft int) {
	t.Helper()
	if v, ok, left, e := seq.Nth(c, i, fuel); !sample.Same(v, want) || !ok || left != wantLeft || e != api.OK {
		t.Fatalf("Nth of %d with %d: %s, %v, %d left, %v; want %s, %d left", i, fuel, short(v), ok, left, e, short(want), wantLeft)
	}
}

// checkNoNth finds no item.
func checkNoNth(t *testing.T, c *cell.Cell, i, fuel, wantLeft int) {
	t.Helper()
	if v, ok, left, e := seq.Nth(c, i, fuel); !sample.Same(v, none()) || ok || left != wantLeft || e != api.OK {
		t.Fatalf("Nth of %d with %d: %s, %v, %d left, %v; want none, %d left", i, fuel, short(v), ok, left, e, wantLeft)
	}
}

// checkDrop drops items: what is behind.
func checkDrop(t *testing.T, c *cell.Cell, n, fuel, wantLeft int) *cell.Cell {
	t.Helper()
	behind, left, e := seq.Drop(c, n, fuel)
	if behind == nil || left != wantLeft || e != api.OK {
		t.Fatalf("Drop of %d with %d: a cell %v, %d left, %v; want %d left", n, fuel, behind != nil, left, e, wantLeft)
	}
	return behind
}

// checkSame holds two seqs against each other.
func checkSame(t *testing.T, a, b *cell.Cell, n, fuel int, want bool, wantLeft int) {
	t.Helper()
	if same, left, e := seq.Same(a, b, n, fuel); same != want || left != wantLeft || e != api.OK {
		t.Fatalf("Same of %d with %d: %v, %d left, %v; want %v, %d left", n, fuel, same, left, e, want, wantLeft)
	}
}

// checkKnown asks how many items are known, and whether the cell itself is.
func checkKnown(t *testing.T, c *cell.Cell, want int, forced bool) {
	t.Helper()
	if n := cell.Known(c); n != want || cell.Forced(c) != forced {
		t.Fatalf("%d items are known, the cell %v; want %d, %v", n, cell.Forced(c), want, forced)
	}
}

// checkErrors asks all calls for so many items in vain; Nth is asked for the last of them.
func checkErrors(t *testing.T, c *cell.Cell, n, fuel int, want api.Errno) {
	t.Helper()
	if l, left, e := seq.Take(c, n, fuel); l != nil || left != 0 || e != want {
		t.Fatalf("Take of %d with %d: %s, %d, %v; want %v", n, fuel, short(l), left, e, want)
	}
	if k, left, e := seq.Count(c, n, fuel); k != 0 || left != 0 || e != want {
		t.Fatalf("Count of %d with %d: %d, %d, %v; want %v", n, fuel, k, left, e, want)
	}
	if v, ok, left, e := seq.Nth(c, n-1, fuel); !sample.Same(v, none()) || ok || left != 0 || e != want {
		t.Fatalf("Nth of %d with %d: %s, %v, %d, %v; want %v", n-1, fuel, short(v), ok, left, e, want)
	}
	if behind, left, e := seq.Drop(c, n, fuel); behind != nil || left != 0 || e != want {
		t.Fatalf("Drop of %d with %d: a cell %v, %d, %v; want %v", n, fuel, behind != nil, left, e, want)
	}
	checkSameError(t, c, c, n, fuel, want)
}

// checkSameError holds two seqs against each other in vain.
func checkSameError(t *testing.T, a, b *cell.Cell, n, fuel int, want api.Errno) {
	t.Helper()
	if same, left, e := seq.Same(a, b, n, fuel); same || left != 0 || e != want {
		t.Fatalf("Same of %d with %d: %v, %d, %v; want %v", n, fuel, same, left, e, want)
	}
}

// The chapter's example.
func TestExamples(t *testing.T) {
	c := numbers(t, 0)
	checkTake(t, c, 3, 5, nums(0, 1, 2), 2)
	checkTake(t, c, 3, 0, nums(0, 1, 2), 0)
	if l, left, e := seq.Take(c, 4, 0); l != nil || left != 0 || e != api.ErrFuel {
		t.Errorf("Take of 4: %v, %d, %v", l, left, e)
	}
}

// 23.1: a seq of nothing, nil or empty, and of some items, all of them known.
func TestList(t *testing.T) {
	for _, l := range [][]api.Value{nil, {}, nums(5), nums(5, 6, 7), {none(), none()}, {str("a"), list(num(1)), sample.Bool(1), sample.Set(num(1)), sample.Map(num(1), num(2)), none()}, sample.New(3).Values(200, 3)} {
		c := listed(t, l...)
		checkKnown(t, c, len(l), true)
		checkTake(t, c, api.MaxLen, 0, l, 0)
		checkCount(t, c, api.MaxLen, 0, len(l), 0)
		checkKnown(t, checkDrop(t, c, len(l), 0, 0), 0, true)
		checkNoNth(t, c, len(l), 0, 0)
		for i, v := range l {
			checkNth(t, c, i, 0, v, 0)
		}
		checkSame(t, c, listed(t, l...), api.MaxLen, 0, true, 0)
	}
}

// 23.1, R1: ErrLong, then ErrValue; a list of MaxLen is none too long.
func TestListErrors(t *testing.T) {
	refused := func(l []api.Value, want api.Errno) {
		t.Helper()
		if c, e := seq.List(l); c != nil || e != want {
			t.Errorf("List of %d: a cell %v, %v; want %v", len(l), c != nil, e, want)
		}
	}
	for _, w := range sample.Wrongs() {
		refused([]api.Value{w}, api.ErrValue)
		refused([]api.Value{num(1), w}, api.ErrValue)
		refused([]api.Value{w, num(1)}, api.ErrValue)
	}
	long := sample.Numbers(api.MaxLen + 1)
	refused(long, api.ErrLong)
	wrong := sample.Wrongs()[0]
	long[0] = wrong
	refused(long, api.ErrLong)
	refused(long[:api.MaxLen], api.ErrValue)
	long[0], long[api.MaxLen-1] = num(0), wrong
	refused(long[:api.MaxLen], api.ErrValue)
	long[api.MaxLen-1] = num(7)
	c := listed(t, long[:api.MaxLen]...)
	checkKnown(t, c, api.MaxLen, true)
	checkTake(t, c, api.MaxLen, 3, long[:api.MaxLen], 3)
	checkNth(t, c, api.MaxLen-1, 0, num(7), 0)
	checkNoNth(t, c, api.MaxLen, 0, 0)
	checkCount(t, c, api.MaxLen, 1, api.MaxLen, 1)
	checkCount(t, c, api.MaxLen-1, 1, api.MaxLen-1, 1)
	checkTake(t, checkDrop(t, c, api.MaxLen-1, 0, 0), 2, 0, nums(7), 0)
	checkTake(t, checkDrop(t, c, api.MaxLen, 0, 0), 2, 0, nil, 0)
	checkSame(t, c, listed(t, long[:api.MaxLen]...), api.MaxLen, 0, true, 0)
	checkSame(t, c, listed(t, long[:api.MaxLen-1]...), api.MaxLen, 0, false, 0)
	checkSame(t, c, listed(t, long[:api.MaxLen-1]...), api.MaxLen-1, 0, true, 0)
}

// 23.2, 23.3, P8: each form of a seq, each n, each fuel: what is told, what is left, what is known then.
func TestEachForm(t *testing.T) {
	for _, f := range forms(4) {
		for n := range f.items() + 4 {
			// So many cells are forced by Take, Count and Drop of n; Nth of n forces one more.
			cost, more := f.cost(n), f.cost(n+1)
			found := nums(0, 1, 2, 3)[:min(n, f.items())]
			for fuel := range 7 {
				checkTakeOf(t, f, n, fuel, cost, found)
				checkDropOf(t, f, n, fuel, cost)
				checkNthOf(t, f, n, fuel, more)
			}
		}
	}
}

// checkTakeOf takes and counts n items of a form's seq, which takes that fuel.
func checkTakeOf(t *testing.T, f form, n, fuel, cost int, want []api.Value) {
	t.Helper()
	taken, counted := f.seq(), f.seq()
	if fuel < cost {
		if l, left, e := seq.Take(taken, n, fuel); l != nil || left != 0 || e != api.ErrFuel {
			t.Fatalf("%s: Take of %d with %d: %v, %d, %v", f, n, fuel, l, left, e)
		}
		if k, left, e := seq.Count(counted, n, fuel); k != 0 || left != 0 || e != api.ErrFuel {
			t.Fatalf("%s: Count of %d with %d: %d, %d, %v", f, n, fuel, k, left, e)
		}
	} else {
		checkTake(t, taken, n, fuel, want, fuel-cost)
		checkCount(t, counted, n, fuel, len(want), fuel-cost)
		checkTake(t, taken, n, 0, want, 0)
		checkCount(t, counted, n, 0, len(want), 0)
	}
	for _, c := range []*cell.Cell{taken, counted} {
		if known := cell.Known(c); known != f.knownWith(fuel, n) {
			t.Fatalf("%s: of %d with %d: %d items are known", f, n, fuel, known)
		}
	}
}

// checkDropOf drops n items of a form's seq, which takes that fuel.
func checkDropOf(t *testing.T, f form, n, fuel, cost int) {
	t.Helper()
	c := f.seq()
	behind, left, e := seq.Drop(c, n, fuel)
	if known := cell.Known(c); known != f.knownWith(fuel, n) {
		t.Fatalf("%s: Drop of %d with %d: %d items are known", f, n, fuel, known)
	}
	if fuel < cost {
		if behind != nil || left != 0 || e != api.ErrFuel {
			t.Fatalf("%s: Drop of %d with %d: a cell %v, %d, %v", f, n, fuel, behind != nil, left, e)
		}
		return
	}
	if behind == nil || left != fuel-cost || e != api.OK {
		t.Fatalf("%s: Drop of %d with %d: a cell %v, %d, %v", f, n, fuel, behind != nil, left, e)
	}
	// The cell behind is not forced.
	if n < len(f) && cell.Forced(behind) != (f[n] == 'k') || n >= len(f) && !cell.Forced(behind) {
		t.Fatalf("%s: Drop of %d: the cell behind is known: %v", f, n, cell.Forced(behind))
	}
	checkTake(t, behind, 9, 9, nums(0, 1, 2, 3)[min(n, f.items()):f.items()], 9-f.cost(9)+cost)
}

// checkNthOf asks for an item of a form's seq, which takes that fuel.
func checkNthOf(t *testing.T, f form, i, fuel, cost int) {
	t.Helper()
	c := f.seq()
	v, ok, left, e := seq.Nth(c, i, fuel)
	if known := cell.Known(c); known != f.knownWith(fuel, i+1) {
		t.Fatalf("%s: Nth of %d with %d: %d items are known", f, i, fuel, known)
	}
	switch {
	case fuel < cost:
		if !sample.Same(v, none()) || ok || left != 0 || e != api.ErrFuel {
			t.Fatalf("%s: Nth of %d with %d: %v, %v, %d, %v", f, i, fuel, v, ok, left, e)
		}
	case i < f.items():
		if !sample.Same(v, num(int64(i))) || !ok || left != fuel-cost || e != api.OK {
			t.Fatalf("%s: Nth of %d with %d: %v, %v, %d, %v", f, i, fuel, v, ok, left, e)
		}
		checkNth(t, c, i, 0, v, 0)
	default:
		if !sample.Same(v, none()) || ok || left != fuel-cost || e != api.OK {
			t.Fatalf("%s: Nth of %d with %d: %v, %v, %d, %v", f, i, fuel, v, ok, left, e)
		}
		checkNoNth(t, c, i, 0, 0)
	}
}

// 23.2, 23.3: seqs without end, of every function, of 0, 1 and many items, up to MaxLen.
func TestWithoutEnd(t *testing.T) {
	for _, n := range []int{0, 1, 2, 10, 1000, api.MaxLen} {
		for _, extra := range []int{0, 1, 7, api.MaxFuel - n} {
			checkTake(t, numbers(t, 0), n, n+extra, sample.Numbers(n), extra)
			checkCount(t, numbers(t, 0), n, n+extra, n, extra)
			checkTake(t, checkDrop(t, numbers(t, 0), n, n+extra, extra), 2, 2, nums(int64(n), int64(n)+1), 0)
		}
		checkNth(t, numbers(t, 0), n, n+1, num(int64(n)), 0)
		checkNth(t, numbers(t, 0), n, api.MaxFuel, num(int64(n)), api.MaxFuel-n-1)
		if n > 0 {
			checkErrors(t, numbers(t, 0), n, 0, api.ErrFuel)
			c := numbers(t, 0)
			if _, _, e := seq.Take(c, n, n-1); e != api.ErrFuel || cell.Known(c) != n-1 {
				t.Errorf("Take of %d with one less: %v, %d known", n, e, cell.Known(c))
			}
		}
	}
	for fn := range api.FnHalf + 1 {
		for _, v := range []api.Value{none(), num(9), str("éa"), list(num(1), num(2)), sample.Nested(api.MaxDeep-2, num(1))} {
			var want []api.Value
			for i := range 6 {
				w, _ := fns.Times(fn, i, v)
				want = append(want, w)
			}
			checkTake(t, must(t)(cell.Iter(fn, v)), 6, 6, want, 0)
			checkNth(t, must(t)(cell.Iter(fn, v)), 5, 6, want[5], 0)
		}
	}
}

// P5: what is told of a seq has the hash that it had.
func TestOneHash(t *testing.T) {
	l := sample.New(8).Values(80, 3)
	told, _, _ := seq.Take(listed(t, l...), len(l), 0)
	for i, v := range l {
		want, _ := hash.Full(v)
		nth, _, _, _ := seq.Nth(listed(t, l...), i, 0)
		taken, _ := hash.Full(told[i])
		if h, _ := hash.Full(nth); h != want || taken != want {
			t.Errorf("%s: %d, %d, want %d", short(v), h, taken, want)
		}
	}
}
