package cell_test

import (
	"fmt"
	"slices"
	"testing"

	"spinney/api"
	"spinney/cell"
	"spinney/fns"
	"spinney/hash"
	"spinney/sample"
)

func none() api.Value                   { return api.Value{} }
func num(n int64) api.Value             { return sample.Num(n) }
func str(s string) api.Value            { return sample.Str(s) }
func list(items ...api.Value) api.Value { return sample.List(items...) }

// short is what a failing test shows of something that may be long.
func short(x any) string {
	s := fmt.Sprint(x)
	return s[:min(len(s), 200)]
}

// must is a cell that came without an error.
func must(t *testing.T) func(*cell.Cell, api.Errno) *cell.Cell {
	return func(c *cell.Cell, e api.Errno) *cell.Cell {
		t.Helper()
		if c == nil || e != api.OK {
			t.Fatalf("no cell: %v", e)
		}
		return c
	}
}

// refused is for what must have been no cell, but an error.
func refused(t *testing.T, want api.Errno) func(*cell.Cell, api.Errno) {
	return func(c *cell.Cell, e api.Errno) {
		t.Helper()
		if c != nil || e != want {
			t.Fatalf("%v, want %v", e, want)
		}
	}
}

// numbers are the numbers from n on, each one more.
func numbers(t *testing.T, n int64) *cell.Cell {
	t.Helper()
	return must(t)(cell.Iter(api.FnInc, num(n)))
}

// known is a seq of items all of whose cells are known.
func known(t *testing.T, l ...api.Value) *cell.Cell {
	t.Helper()
	c := cell.Empty()
	for _, v := range slices.Backward(l) {
		c = must(t)(cell.Cons(v, c))
	}
	return c
}

// checkItem forces a cell that has a first item: its rest.
func checkItem(t *testing.T, c *cell.Cell, fuel int, want api.Value, wantLeft int) *cell.Cell {
	t.Helper()
	first, rest, ok, left, e := cell.Force(c, fuel)
	if !sample.Same(first, want) || rest == nil || !ok || left != wantLeft || e != api.OK {
		t.Fatalf("Force with %d: %s, rest %v, %v, %d left, %v; want %s, %d left", fuel, short(first), rest != nil, ok, left, e, short(want), wantLeft)
	}
	if !cell.Forced(c) || cell.Known(c) == 0 {
		t.Fatalf("forced, but not known")
	}
	return rest
}

// checkEmpty forces a cell that is empty.
func checkEmpty(t *testing.T, c *cell.Cell, fuel, wantLeft int) {
	t.Helper()
	first, rest, ok, left, e := cell.Force(c, fuel)
	if !sample.Same(first, none()) || rest != nil || ok || left != wantLeft || e != api.OK {
		t.Fatalf("Force with %d: %s, rest %v, %v, %d left, %v; want an empty one, %d left", fuel, short(first), rest != nil, ok, left, e, wantLeft)
	}
	if !cell.Forced(c) || cell.Known(c) != 0 {
		t.Fatalf("an empty one: known %v, %d items", cell.Forced(c), cell.Known(c))
	}
}

// checkError forces a cell in vain.
func checkError(t *testing.T, c *cell.Cell, fuel int, want api.Errno) {
	t.Helper()
	first, rest, ok, left, e := cell.Force(c, fuel)
	if !sample.Same(first, none()) || rest != nil || ok || left != 0 || e != want {
		t.Fatalf("Force with %d: %s, rest %v, %v, %d left, %v; want %v", fuel, short(first), rest != nil, ok, left, e, want)
	}
}

// checkAhead forces so many cells.
func checkAhead(t *testing.T, c *cell.Cell, n, fuel, wantLeft int, want api.Errno) {
	t.Helper()
	if left, e := cell.Ahead(c, n, fuel); left != wantLeft || e != want {
		t.Fatalf("Ahead of %d with %d: %d left, %v; want %d left, %v", n, fuel, left, e, wantLeft, want)
	}
}

// checkKnown asks how many items are known, and whether the cell itself is.
func checkKnown(t *testing.T, c *cell.Cell, want int, forced bool) {
	t.Helper()
	if n := cell.Known(c); n != want || cell.Forced(c) != forced {
		t.Fatalf("%d items are known, the cell %v; want %d, %v", n, cell.Forced(c), want, forced)
	}
}

// checkItems goes over known items, with no fuel: the cell behind them.
func checkItems(t *testing.T, c *cell.Cell, want ...api.Value) *cell.Cell {
	t.Helper()
	for _, v := range want {
		c = checkItem(t, c, 0, v, 0)
	}
	return c
}

// The chapter's example.
func TestExamples(t *testing.T) {
	it := numbers(t, 0)
	rest := checkItem(t, it, 1, num(0), 0)
	checkKnown(t, rest, 0, false)
	checkAhead(t, it, 3, 9, 7, api.OK)
	fresh := numbers(t, 0)
	checkError(t, fresh, 0, api.ErrFuel)
	checkKnown(t, fresh, 0, false)
}

// DOC.md's example 7, with a step of the tests' own: the numbers from 0 on, each one more, the first two: 1 2; it takes four of the fuel; again it takes none.
func TestExampleOfTheWhole(t *testing.T) {
	below := numbers(t, 0)
	c := cell.Later(mapped{api.FnInc, below})
	checkKnown(t, below, 0, false)
	checkAhead(t, c, 2, 100, 96, api.OK)
	checkAhead(t, c, 2, 0, 0, api.OK)
	checkItems(t, c, num(1), num(2))
	checkKnown(t, c, 2, true)
	checkKnown(t, below, 2, true)
}

// 22.1
func TestEmpty(t *testing.T) {
	for _, c := range []*cell.Cell{cell.Empty(), cell.Later(nil), nil, {}} {
		checkKnown(t, c, 0, true)
		for _, fuel := range []int{0, 1, 7, api.MaxFuel} {
			checkEmpty(t, c, fuel, fuel)
			for _, n := range []int{0, 1, 2, api.MaxLen} {
				checkAhead(t, c, n, fuel, fuel, api.OK)
			}
		}
		checkKnown(t, c, 0, true)
	}
	if cell.Empty() == nil || cell.Later(nil) == nil {
		t.Errorf("nil in place of an empty cell")
	}
}

// 22.1, 22.2: a known cell takes no fuel, whatever there is; upon a nil rest, an empty one, a known one, and one that is not known.
func TestCons(t *testing.T) {
	lazy := numbers(t, 5)
	for _, v := range []api.Value{none(), num(1), str("a"), list(num(1), num(2)), sample.Nested(api.MaxDeep, num(1)), list(sample.Numbers(api.MaxParts - 1)...)} {
		for _, rest := range []*cell.Cell{nil, cell.Empty(), {}, cell.Later(nil)} {
			c := must(t)(cell.Cons(v, rest))
			checkKnown(t, c, 1, true)
			for _, fuel := range []int{0, 1, api.MaxFuel} {
				checkEmpty(t, checkItem(t, c, fuel, v, fuel), fuel, fuel)
			}
		}
		c := must(t)(cell.Cons(v, must(t)(cell.Cons(num(9), nil))))
		checkKnown(t, c, 2, true)
		checkEmpty(t, checkItems(t, c, v, num(9)), 3, 3)
		upon := must(t)(cell.Cons(v, lazy))
		checkKnown(t, upon, 1, true)
		checkKnown(t, checkItem(t, upon, 0, v, 0), 0, false)
	}
	// The rest is that very seq: what is forced of one is known of the other.
	a, b := must(t)(cell.Cons(num(1), lazy)), must(t)(cell.Cons(num(2), lazy))
	checkAhead(t, a, 3, 9, 7, api.OK)
	checkKnown(t, lazy, 2, true)
	checkKnown(t, b, 3, true)
	checkItems(t, b, num(2), num(5), num(6))
	for _, w := range sample.Wrongs() {
		for _, rest := range []*cell.Cell{nil, cell.Empty(), lazy} {
			refused(t, api.ErrValue)(cell.Cons(w, rest))
		}
	}
}

// 22.1, 22.2: what a step tells, when it is asked, and with which fuel.
func TestLater(t *testing.T) {
	for _, spends := range []int{0, 1, 3} {
		end := &told{spends: spends}
		last := cell.Later(end)
		step := &told{first: str("a"), rest: last, ok: true, spends: spends}
		c := cell.Later(step)
		checkKnown(t, c, 0, false)
		checkError(t, c, 0, api.ErrFuel)
		checkKnown(t, c, 0, false)
		if len(step.asked) != 0 {
			t.Errorf("asked without fuel: %v", step.asked)
		}
		rest := checkItem(t, c, 9, str("a"), 8-spends)
		checkKnown(t, c, 1, true)
		checkKnown(t, rest, 0, false)
		checkEmpty(t, rest, 5, 4-spends)
		checkEmpty(t, last, 0, 0)
		checkItem(t, c, 0, str("a"), 0)
		checkItem(t, c, api.MaxFuel, str("a"), api.MaxFuel)
		if !slices.Equal(step.asked, []int{8}) || !slices.Equal(end.asked, []int{4}) {
			t.Errorf("asked with %v, %v", step.asked, end.asked)
		}
	}
	// A nil rest is an empty one; what a step tells beside a false is not heeded.
	c := cell.Later(&told{first: num(1), ok: true})
	checkEmpty(t, checkItem(t, c, 1, num(1), 0), 0, 0)
	checkEmpty(t, cell.Later(&told{first: num(1), rest: numbers(t, 0)}), 1, 0)
	checkEmpty(t, cell.Later(&told{first: sample.Bool(2), rest: numbers(t, 0)}), 1, 0)
	most := &told{first: num(1), ok: true}
	checkItem(t, cell.Later(most), api.MaxFuel, num(1), api.MaxFuel-1)
	if !slices.Equal(most.asked, []int{api.MaxFuel - 1}) {
		t.Errorf("asked with %v", most.asked)
	}
}

// values are right values of all kinds, those at the limits too.
func values() []api.Value {
	out := []api.Value{
		none(), sample.Bool(1), num(0), num(-7), num(7), num(1<<63 - 1), num(-1 << 63), str(""), str("éa"), list(), list(num(2), num(1)), sample.Set(num(1), str("a")), sample.Map(num(1), list(num(9))),
		sample.Nested(api.MaxDeep, num(1)), sample.Nested(api.MaxDeep-1, num(1)), list(sample.Numbers(api.MaxParts - 1)...), sample.Nested(3, sample.Map(str("k"), num(5))),
	}
	return append(out, sample.New(1).Values(30, 3)...)
}

// 22.1: Iter of every function: v, what the function makes of v, and so on, one of the fuel for each.
func TestIter(t *testing.T) {
	const n = 20
	for fn := range api.FnHalf + 1 {
		for _, v := range values() {
			c := must(t)(cell.Iter(fn, v))
			checkKnown(t, c, 0, false)
			checkError(t, c, 0, api.ErrFuel)
			at := c
			for i := range n {
				want, _ := fns.Times(fn, i, v)
				rest := checkItem(t, at, 5, want, 4)
				checkKnown(t, rest, 0, false)
				checkKnown(t, c, i+1, true)
				at = rest
			}
			whole := must(t)(cell.Iter(fn, v))
			checkAhead(t, whole, n, n, 0, api.OK)
			for i, at := 0, whole; i < n; i++ {
				want, _ := fns.Times(fn, i, v)
				at = checkItem(t, at, 0, want, 0)
			}
		}
	}
	for _, fn := range sample.Beyond(api.FnHalf) {
		refused(t, api.ErrKind)(cell.Iter(fn, num(0)))
		// The function is looked at ahead of the value.
		for _, w := range sample.Wrongs() {
			refused(t, api.ErrKind)(cell.Iter(fn, w))
		}
	}
	for fn := range api.FnHalf + 1 {
		for _, w := range sample.Wrongs() {
			refused(t, api.ErrValue)(cell.Iter(fn, w))
		}
	}
}

// 22.1: by hand.
func TestIterByHand(t *testing.T) {
	for _, c := range []struct {
		fn   int
		v    api.Value
		want []api.Value
	}{
		{api.FnSame, str("a"), []api.Value{str("a"), str("a"), str("a")}},
		{api.FnInc, num(-1), []api.Value{num(-1), num(0), num(1), num(2)}},
		{api.FnInc, num(1<<63 - 1), []api.Value{num(1<<63 - 1), num(-1 << 63), num(-1<<63 + 1)}},
		{api.FnNeg, num(3), []api.Value{num(3), num(-3), num(3), num(-3)}},
		{api.FnSize, str("abc"), []api.Value{str("abc"), num(3), num(0), num(0)}},
		{api.FnFirst, list(list(str("ab"))), []api.Value{list(list(str("ab"))), list(str("ab")), str("ab"), str("a"), str("a")}},
		{api.FnWrap, none(), []api.Value{none(), list(none()), list(list(none()))}},
		{api.FnKind, list(), []api.Value{list(), num(4), num(2), num(2)}},
		{api.FnHalf, num(9), []api.Value{num(9), num(4), num(2), num(1), num(0), num(0)}},
	} {
		it := must(t)(cell.Iter(c.fn, c.v))
		checkAhead(t, it, len(c.want), len(c.want)+3, 3, api.OK)
		checkKnown(t, checkItems(t, it, c.want...), 0, false)
	}
}

// P5: what comes from a seq has the hash that it had, and the published one.
func TestOneHash(t *testing.T) {
	for _, v := range values() {
		want, _ := hash.Full(v)
		step := &told{first: v, ok: true}
		for _, c := range []*cell.Cell{must(t)(cell.Cons(v, nil)), must(t)(cell.Iter(api.FnInc, v)), cell.Later(step), cell.Later(mapped{api.FnSame, must(t)(cell.Cons(v, nil))})} {
			for range 2 {
				first, _, _, _, _ := cell.Force(c, 9)
				if h, e := hash.Full(first); h != want || e != api.OK {
					t.Errorf("%s: %d, want %d", short(v), h, want)
				}
			}
		}
	}
	// DOC.md's examples 1 and 2.
	for i, v := range []api.Value{num(1), list(), list(num(1), num(2), num(3)), sample.Set(num(1), num(2), num(3))} {
		first, _, _, _, _ := cell.Force(must(t)(cell.Iter(api.FnWrap, v)), 1)
		if h, _ := hash.Full(first); h != []uint32{1392991556, 2277397642, 736442005, 439094965}[i] {
			t.Errorf("%s: %d", short(first), h)
		}
	}
}
