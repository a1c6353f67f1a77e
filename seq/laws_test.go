package seq_test

import (
	"testing"

	"spinney/api"
	"spinney/cell"
	"spinney/sample"
	"spinney/seq"
)

// 23.5: Take of List of l is l's beginning, without fuel.
func TestTakeOfList(t *testing.T) {
	s := sample.New(1)
	for range 60 {
		l := s.Values(s.Below(30), 2)
		for _, n := range []int{0, 1, s.Below(30), len(l), len(l) + 1, api.MaxLen} {
			for _, fuel := range []int{0, 1, s.Below(100), api.MaxFuel} {
				checkTake(t, listed(t, l...), n, fuel, l[:min(n, len(l))], fuel)
			}
		}
	}
}

// 23.5: what was told once is told again without fuel, by each call, also to a call of another kind.
func TestToldAgain(t *testing.T) {
	for _, f := range forms(4) {
		for n := range f.items() + 2 {
			c := f.seq()
			l, _, e := seq.Take(c, n, 9)
			if e != api.OK {
				t.Fatal(e)
			}
			checkTake(t, c, n, 0, l, 0)
			checkCount(t, c, n, 0, len(l), 0)
			checkSame(t, c, c, n, 0, true, 0)
			if n > len(l) {
				checkNoNth(t, c, n-1, 0, 0)
			} else if n > 0 {
				checkNth(t, c, n-1, 0, l[n-1], 0)
			}
			checkDrop(t, c, n, 0, 0)
		}
	}
}

// 23.5: Take of n, and then of Drop of n, is Take of both together: the same items for as much fuel.
func TestTakeAndDrop(t *testing.T) {
	checkBoth := func(whole, cut *cell.Cell, n, m, fuel int) {
		t.Helper()
		want, left, e := seq.Take(whole, n+m, fuel)
		ahead, leftAhead, e1 := seq.Take(cut, n, fuel)
		if e1 != api.OK {
			if e != e1 {
				t.Fatalf("Take of %d with %d: %v, of %d and %d: %v", n+m, fuel, e, n, m, e1)
			}
			return
		}
		behind := checkDrop(t, cut, n, leftAhead, leftAhead)
		rest, leftBehind, e2 := seq.Take(behind, m, leftAhead)
		if e != e2 || e == api.OK && (left != leftBehind || !sample.SameAll(want, append(ahead, rest...))) || cell.Known(whole) != cell.Known(cut) {
			t.Fatalf("Take of %d and %d with %d: %v %v, %d left, %v; at once %v, %d left, %v", n, m, fuel, ahead, rest, leftBehind, e2, want, left, e)
		}
	}
	for _, f := range forms(4) {
		for n := range 6 {
			for m := range 6 {
				for fuel := range 7 {
					checkBoth(f.seq(), f.seq(), n, m, fuel)
				}
			}
		}
	}
	for _, n := range []int{0, 1, 7, 1000} {
		for _, m := range []int{0, 1, 7, 1000} {
			for _, fuel := range []int{0, n, n + m - 1, n + m, n + m + 1, api.MaxFuel} {
				if fuel >= 0 {
					checkBoth(numbers(t, 3), numbers(t, 3), n, m, fuel)
				}
			}
		}
	}
}

// P3: whatever is asked of a seq, an older answer of it and older cells of it tell what they told.
func TestOlderOnesStay(t *testing.T) {
	c := numbers(t, 0)
	second := checkDrop(t, c, 2, 9, 7)
	upon := must(t)(cell.Cons(str("a"), second))
	for n := range 20 {
		checkTake(t, upon, n+1, 9, append([]api.Value{str("a")}, sample.Numbers(n + 2)[2:]...), 9)
		checkTake(t, c, 2+n, 0, sample.Numbers(2+n), 0)
		checkNth(t, second, n, 1, num(int64(n+2)), 0)
		if again := checkDrop(t, c, 2, 0, 0); again != second {
			t.Fatalf("another cell")
		}
	}
}
