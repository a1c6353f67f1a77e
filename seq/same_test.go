package seq_test

import (
	"testing"

	"spinney/api"
	"spinney/cell"
	"spinney/sample"
	"spinney/seq"
)

// plain is a seq as two plain lists: its items, and which of its cells (the empty one too) are known by now.
type plain struct {
	items []int
	known []bool
}

// force is what forcing the cell in a place takes.
func (p plain) force(i, fuel int) (int, bool) {
	if p.known[i] {
		return fuel, true
	}
	if fuel == 0 {
		return 0, false
	}
	p.known[i] = true
	return fuel - 1, true
}

// same is what Same tells of two such seqs, by the chapter's words.
func same(a, b plain, n, fuel int) (bool, int, api.Errno) {
	for i := range n {
		left, ok := a.force(i, fuel)
		if !ok {
			return false, 0, api.ErrFuel
		}
		if fuel, ok = b.force(i, left); !ok {
			return false, 0, api.ErrFuel
		}
		endA, endB := i == len(a.items), i == len(b.items)
		if endA && endB {
			return true, fuel, api.OK
		}
		if endA || endB || a.items[i] != b.items[i] {
			return false, fuel, api.OK
		}
	}
	return true, fuel, api.OK
}

// plainOf is a seq of a form as plain lists; its items are the numbers from 0 on, but that in one place is another.
func plainOf(f form, odd int) plain {
	var p plain
	for i, letter := range f {
		if i < f.items() {
			p.items = append(p.items, i)
		}
		p.known = append(p.known, letter == 'k')
	}
	if odd < f.items() {
		p.items[odd] = 77
	}
	return p
}

// cell is the same as a seq.
func (p plain) cell() *cell.Cell {
	var c *cell.Cell
	for i := len(p.known) - 1; i >= 0; i-- {
		first, ok := none(), i < len(p.items)
		if ok {
			first = num(int64(p.items[i]))
		}
		switch {
		case !p.known[i]:
			c = cell.Later(&told{first: first, rest: c, ok: ok})
		case ok:
			c, _ = cell.Cons(first, c)
		default:
			c = cell.Empty()
		}
	}
	return c
}

// knownItems is how many items can be told without fuel.
func (p plain) knownItems() int {
	n := 0
	for n < len(p.items) && p.known[n] {
		n++
	}
	return n
}

// 23.4, P8: all forms of two seqs, alike and unlike in each place, shorter, as long and longer, each n, each fuel.
func TestSameOfEachForm(t *testing.T) {
	for _, f := range forms(3) {
		for _, g := range forms(3) {
			for odd := range 4 {
				for n := range 6 {
					for fuel := range 9 {
						checkSameOf(t, plainOf(f, 9), plainOf(g, odd), n, fuel)
					}
				}
			}
		}
	}
}

func checkSameOf(t *testing.T, a, b plain, n, fuel int) {
	t.Helper()
	x, y := a.cell(), b.cell()
	want, wantLeft, wantError := same(a, b, n, fuel)
	is, left, e := seq.Same(x, y, n, fuel)
	if is != want || left != wantLeft || e != wantError {
		t.Fatalf("Same of %v, %v, %d with %d: %v, %d, %v; want %v, %d, %v", a, b, n, fuel, is, left, e, want, wantLeft, wantError)
	}
	if cell.Known(x) != a.knownItems() || cell.Known(y) != b.knownItems() {
		t.Fatalf("Same of %v, %v, %d with %d: %d and %d items are known", a, b, n, fuel, cell.Known(x), cell.Known(y))
	}
	if e == api.OK {
		checkSame(t, x, y, n, 0, want, 0)
	}
}

// 23.4: by hand.
func TestSameByHand(t *testing.T) {
	a, b := numbers(t, 0), numbers(t, 0)
	checkSame(t, a, b, 0, 5, true, 5)
	checkKnown(t, a, 0, false)
	// Two for each item: a's cell ahead of b's.
	checkSame(t, a, b, 2, 5, true, 1)
	checkSameError(t, a, b, 3, 1, api.ErrFuel)
	checkKnown(t, a, 3, true)
	checkKnown(t, b, 2, true)
	checkSame(t, a, b, 3, 1, true, 0)
	// Unlike in the first item: nothing behind it is forced.
	c := numbers(t, 7)
	checkSame(t, a, c, api.MaxLen, 5, false, 4)
	checkKnown(t, c, 1, true)
	// Unlike in the last item that is asked for, and in the one behind.
	checkSame(t, listed(t, nums(1, 2, 3)...), listed(t, nums(1, 2, 4)...), 3, 9, false, 9)
	checkSame(t, listed(t, nums(1, 2, 3)...), listed(t, nums(1, 2, 4)...), 2, 9, true, 9)
	// One is at its end: false, either way; as long as the other is not asked for more.
	checkSame(t, listed(t, nums(0, 1)...), numbers(t, 0), 2, 9, true, 7)
	checkSame(t, listed(t, nums(0, 1)...), numbers(t, 0), 3, 9, false, 6)
	checkSame(t, numbers(t, 0), listed(t, nums(0, 1)...), 3, 9, false, 6)
	checkSameError(t, listed(t, nums(0, 1)...), numbers(t, 0), 3, 2, api.ErrFuel)
	for _, x := range []*cell.Cell{nil, cell.Empty(), {}, cell.Later(nil)} {
		for _, y := range []*cell.Cell{nil, cell.Empty(), {}, cell.Later(nil)} {
			checkSame(t, x, y, api.MaxLen, 3, true, 3)
		}
		checkSame(t, x, listed(t, none()), 1, 3, false, 3)
		checkSame(t, listed(t, none()), x, 1, 3, false, 3)
		checkSame(t, listed(t, none()), x, 0, 3, true, 3)
		checkSame(t, x, numbers(t, 0), 1, 3, false, 2)
		checkSame(t, numbers(t, 0), x, 1, 3, false, 2)
		checkSameError(t, x, numbers(t, 0), 1, 0, api.ErrFuel)
	}
}

// 23.4: items of all kinds: like ones and unlike ones, one form of nil and empty lists.
func TestSameOfItems(t *testing.T) {
	l := append(sample.New(4).Keys(60), none(), list(), sample.Set(), sample.Map())
	for _, v := range l {
		for _, w := range l {
			checkSame(t, listed(t, v), listed(t, w), 1, 2, sample.Same(v, w), 2)
		}
	}
	checkSame(t, listed(t, api.Value{Kind: api.VList, Items: []api.Value{}}), listed(t, list()), 5, 0, true, 0)
}

// 23.4: a seq and itself, which is forced once; and seqs that share a rest.
func TestSameOfWhatIsShared(t *testing.T) {
	for _, n := range []int{0, 1, 5, 1000, api.MaxLen} {
		c := numbers(t, 0)
		checkSame(t, c, c, n, n+2, true, 2)
		checkKnown(t, c, n, n > 0)
	}
	rest := numbers(t, 5)
	a, b := must(t)(cell.Cons(num(4), rest)), must(t)(cell.Cons(num(4), rest))
	checkSame(t, a, b, 4, 9, true, 6)
	checkKnown(t, rest, 3, true)
	// One of them is the other one's rest: each cell is forced once.
	c := must(t)(cell.Iter(api.FnSame, str("a")))
	behind := checkDrop(t, c, 1, 1, 0)
	checkSame(t, c, behind, 3, 9, true, 6)
	checkKnown(t, c, 4, true)
	checkSame(t, c, behind, 3, 0, true, 0)
	d := numbers(t, 0)
	checkSame(t, d, checkDrop(t, d, 1, 1, 0), 3, 9, false, 8)
}

// 23.4, R4: an error of a's cell comes ahead of b's, each in its turn.
func TestSameErrors(t *testing.T) {
	fails := func(items int, e api.Errno) *cell.Cell {
		c := cell.Later(&told{e: e})
		for i := items - 1; i >= 0; i-- {
			c = must(t)(cell.Cons(num(int64(i)), c))
		}
		return c
	}
	for i := range 4 {
		for j := range 4 {
			want := api.ErrPath
			if j < i {
				want = api.ErrNone
			}
			checkSameError(t, fails(i, api.ErrPath), fails(j, api.ErrNone), api.MaxLen, 9, want)
			checkSame(t, fails(i, api.ErrPath), fails(j, api.ErrNone), min(i, j), 9, true, 9)
		}
	}
	// What was forced by then stays so, and b is not asked where a fails.
	a, b := numbers(t, 0), numbers(t, 0)
	upon := must(t)(cell.Cons(num(-1), cell.Later(&told{e: api.ErrPath})))
	checkSameError(t, upon, numbers(t, -1), 2, 9, api.ErrPath)
	checkSameError(t, a, b, 4, 5, api.ErrFuel)
	checkKnown(t, a, 3, true)
	checkKnown(t, b, 2, true)
	step := &told{first: num(0), ok: true}
	checkSameError(t, cell.Later(&told{e: api.ErrPath}), cell.Later(step), 1, 9, api.ErrPath)
	if len(step.asked) != 0 {
		t.Errorf("b was asked: %v", step.asked)
	}
}
