package seq_test

import (
	"math"
	"slices"
	"strings"
	"testing"
	"unsafe"

	"spinney/api"
	"spinney/cell"
	"spinney/sample"
	"spinney/seq"
)

// wrongNumbers are none from 0 to MaxLen, wrongFuels none from 0 to MaxFuel.
func wrongNumbers() []int {
	return []int{-1, api.MaxLen + 1, math.MinInt, math.MaxInt, -api.MaxLen, 1 << 32, -1 << 32}
}

func wrongFuels() []int {
	return []int{-1, api.MaxFuel + 1, math.MinInt, math.MaxInt, -api.MaxFuel, 1 << 32, -1 << 32}
}

// checkRefused asks all calls with a wrong number.
func checkRefused(t *testing.T, c *cell.Cell, n, fuel int) {
	t.Helper()
	if l, left, e := seq.Take(c, n, fuel); l != nil || left != 0 || e != api.ErrArg {
		t.Errorf("Take of %d with %d: %v, %d, %v", n, fuel, l, left, e)
	}
	if k, left, e := seq.Count(c, n, fuel); k != 0 || left != 0 || e != api.ErrArg {
		t.Errorf("Count of %d with %d: %d, %d, %v", n, fuel, k, left, e)
	}
	if v, ok, left, e := seq.Nth(c, n, fuel); !sample.Same(v, none()) || ok || left != 0 || e != api.ErrArg {
		t.Errorf("Nth of %d with %d: %v, %v, %d, %v", n, fuel, v, ok, left, e)
	}
	if behind, left, e := seq.Drop(c, n, fuel); behind != nil || left != 0 || e != api.ErrArg {
		t.Errorf("Drop of %d with %d: a cell %v, %d, %v", n, fuel, behind != nil, left, e)
	}
	for _, other := range []*cell.Cell{c, nil, cell.Empty()} {
		checkSameError(t, c, other, n, fuel, api.ErrArg)
		checkSameError(t, other, c, n, fuel, api.ErrArg)
	}
}

// R1, R4: numbers and fuel out of their bounds, of any cell, a known or an empty one too: nothing is forced.
func TestWrongNumbers(t *testing.T) {
	step := &told{first: num(1), ok: true}
	lazy := cell.Later(step)
	for _, c := range []*cell.Cell{nil, {}, cell.Empty(), listed(t, nums(1, 2)...), lazy, numbers(t, 0)} {
		for _, n := range wrongNumbers() {
			for _, fuel := range append(wrongFuels(), 0, 1, api.MaxFuel) {
				checkRefused(t, c, n, fuel)
			}
		}
		for _, fuel := range wrongFuels() {
			for _, n := range []int{0, 1, 2, api.MaxLen} {
				checkRefused(t, c, n, fuel)
			}
		}
	}
	if len(step.asked) != 0 || cell.Forced(lazy) {
		t.Errorf("asked: %v", step.asked)
	}
}

// 23.2 to 23.4, R6: nil cells, and others that are empty.
func TestEmptySeqs(t *testing.T) {
	for _, c := range []*cell.Cell{nil, {}, cell.Empty(), cell.Later(nil), listed(t)} {
		for _, n := range []int{0, 1, 2, api.MaxLen} {
			for _, fuel := range []int{0, 1, api.MaxFuel} {
				checkTake(t, c, n, fuel, nil, fuel)
				checkCount(t, c, n, fuel, 0, fuel)
				checkNoNth(t, c, n, fuel, fuel)
				behind := checkDrop(t, c, n, fuel, fuel)
				checkKnown(t, behind, 0, true)
				checkTake(t, behind, n, fuel, nil, fuel)
			}
		}
	}
	// An empty one that is not known takes one of the fuel, if it is asked for an item.
	lazy := func() *cell.Cell { return cell.Later(&told{}) }
	checkTake(t, lazy(), 0, 5, nil, 5)
	checkTake(t, lazy(), 1, 5, nil, 4)
	checkCount(t, lazy(), 1, 5, 0, 4)
	checkNoNth(t, lazy(), 0, 5, 4)
	checkDrop(t, lazy(), 0, 5, 5)
	checkKnown(t, checkDrop(t, lazy(), 1, 5, 4), 0, true)
	checkErrors(t, lazy(), 1, 0, api.ErrFuel)
	checkSame(t, lazy(), lazy(), 1, 5, true, 3)
}

// 23.2, 23.3: with 0 nothing is forced, with n items no further cell.
func TestNoFurther(t *testing.T) {
	steps := []*told{}
	c := cell.Empty()
	for i := range 5 {
		steps = append(steps, &told{first: num(int64(4 - i)), rest: c, ok: true})
		c = cell.Later(steps[i])
	}
	asked := func() int {
		n := 0
		for _, s := range steps {
			n += len(s.asked)
		}
		return n
	}
	checkTake(t, c, 0, 9, nil, 9)
	checkCount(t, c, 0, 9, 0, 9)
	checkDrop(t, c, 0, 9, 9)
	checkSame(t, c, c, 0, 9, true, 9)
	for n := 1; n <= 5; n++ {
		for range 2 {
			checkNth(t, c, n-1, 9-asked(), num(int64(n-1)), 9-n)
			checkTake(t, c, n, 9, sample.Numbers(n), 9)
			checkCount(t, c, n, 9, n, 9)
			checkSame(t, c, c, n, 9, true, 9)
			if behind := checkDrop(t, c, n, 9, 9); n < 5 && cell.Forced(behind) || asked() != n {
				t.Fatalf("of %d items: %d cells were asked", n, asked())
			}
		}
	}
	// Drop tells the very cell behind, and so on with what was told of it.
	first := checkDrop(t, c, 2, 0, 0)
	if again := checkDrop(t, c, 2, 0, 0); again != first {
		t.Errorf("another cell")
	}
	if same := checkDrop(t, c, 0, 0, 0); same != c {
		t.Errorf("Drop of 0 is another cell")
	}
}

// 23.2 to 23.4: a step's error is the call's, with zeros; what was forced by then stays so.
func TestStepsErrors(t *testing.T) {
	for _, e := range []api.Errno{api.ErrArg, api.ErrLong, api.ErrValue, api.ErrFuel, api.ErrPath, -1, 999} {
		step := &told{first: num(2), ok: true, e: e}
		c := cell.Later(&told{first: num(0), rest: cell.Later(&told{first: num(1), rest: cell.Later(step), ok: true}), ok: true})
		checkErrors(t, c, 3, 9, e)
		checkErrors(t, c, api.MaxLen, api.MaxFuel, e)
		checkKnown(t, c, 2, true)
		checkTake(t, c, 2, 0, nums(0, 1), 0)
		checkKnown(t, checkDrop(t, c, 2, 0, 0), 0, false)
		checkErrors(t, c, 3, 0, api.ErrFuel)
		step.e = api.OK
		checkTake(t, c, 4, 9, nums(0, 1, 2), 8)
	}
	// Steps that panic, and items that are not right.
	var nothing *told
	checkErrors(t, must(t)(cell.Cons(num(1), cell.Later(nothing))), 2, 9, api.ErrArg)
	for _, w := range sample.Wrongs() {
		checkErrors(t, cell.Later(&told{first: w, ok: true}), 1, 9, api.ErrValue)
	}
}

// P8: a step that takes fuel of its own: the next one finds what is left.
func TestStepsThatSpend(t *testing.T) {
	last := &told{first: num(2), ok: true, spends: 2}
	c := cell.Later(&told{first: num(1), rest: cell.Later(last), ok: true, spends: 3})
	if l, left, e := seq.Take(c, 2, 4); l != nil || left != 0 || e != api.ErrFuel || len(last.asked) != 0 {
		t.Errorf("Take with 4: %v, %d, %v", l, left, e)
	}
	checkKnown(t, c, 1, true)
	checkTake(t, c, 3, 9, nums(1, 2), 6)
	if !slices.Equal(last.asked, []int{8}) {
		t.Errorf("asked with %v", last.asked)
	}
}

// P1: a seq that leads back to itself.
func TestRings(t *testing.T) {
	step := &told{first: num(1), ok: true}
	c := cell.Later(step)
	step.rest = c
	checkCount(t, c, api.MaxLen, 1, api.MaxLen, 0)
	checkNth(t, c, api.MaxLen, 0, num(1), 0)
	checkSame(t, c, must(t)(cell.Cons(num(1), c)), api.MaxLen, 0, true, 0)
	if behind := checkDrop(t, c, api.MaxLen, 0, 0); behind != c {
		t.Errorf("another cell")
	}
	checkTake(t, c, 3, 0, nums(1, 1, 1), 0)
}

// nested is a value that holds lists, in memory of its own.
func nested() api.Value {
	return list(num(1), list(num(2), str("a")), sample.Map(num(3), list(num(4))))
}

// R3: what is handed in stays as it is, spare room too, and is not kept.
func TestArgumentsStay(t *testing.T) {
	want := []api.Value{nested(), nested(), num(1)}
	l := sample.RoomyAll([]api.Value{nested(), nested(), num(1)})
	c := listed(t, l...)
	checkTake(t, c, 9, 0, want, 0)
	if !sample.SameAll(l, want) || !sample.RoomKept(l) {
		t.Errorf("changed: %v", l)
	}
	sample.Spoil(l)
	checkTake(t, c, 9, 0, want, 0)
	wrong := sample.RoomyAll([]api.Value{nested(), sample.Bool(2)})
	if _, e := seq.List(wrong); e != api.ErrValue || !sample.SameAll(wrong, []api.Value{nested(), sample.Bool(2)}) || !sample.RoomKept(wrong) {
		t.Errorf("changed: %v", wrong)
	}
}

// R3: writing over an answer, and over its spare room, changes nothing that is told again.
func TestAnswersAreNew(t *testing.T) {
	want := []api.Value{nested(), nested(), nested()}
	for _, c := range []*cell.Cell{listed(t, want...), must(t)(cell.Iter(api.FnSame, nested()))} {
		before, _, _ := seq.Take(c, 3, 9)
		for range 3 {
			l, _, _ := seq.Take(c, 3, 0)
			for i := range l {
				sample.Spoil(l[i].Items)
				if i+1 < len(l) && !sample.Same(l[i+1], nested()) {
					t.Errorf("two lists of one answer share memory")
				}
			}
			sample.Spoil(l[:cap(l)])
			v, _, _, _ := seq.Nth(c, 1, 0)
			sample.Spoil(v.Items)
		}
		checkTake(t, c, 3, 0, want, 0)
		checkNth(t, c, 1, 0, nested(), 0)
		if !sample.SameAll(before, want) {
			t.Errorf("answers share memory: %v", before)
		}
	}
}

// R3
func TestTextsAreNew(t *testing.T) {
	long := strings.Repeat("a", api.MaxText)
	seen := []*byte{unsafe.StringData(long)}
	c := listed(t, str(long), str(long))
	for range 3 {
		l, _, _ := seq.Take(c, 2, 0)
		v, _, _, _ := seq.Nth(c, 1, 0)
		for _, v := range append(l, v) {
			at := unsafe.StringData(v.Text)
			if v.Text != long || slices.Contains(seen, at) {
				t.Errorf("the text is not new memory: %q", v.Text)
			}
			seen = append(seen, at)
		}
	}
}
