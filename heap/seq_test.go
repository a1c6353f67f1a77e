package heap_test

import (
	"testing"

	"spinney/api"
	"spinney/fns"
	"spinney/heap"
	"spinney/sample"
)

// OpSeq of every kind: its members, in its order, take no fuel; of an empty one there are none.
func TestSeq(t *testing.T) {
	a, c, v, w := str("a"), str("c"), str("v"), str("w")
	pairs := []api.Value{list(c, v), list(a, w)}
	for _, x := range []struct {
		kind, k int
		members []api.Value
		want    []api.Value
	}{
		// Kind 32 has all keys in natural order.
		{heap.HMap, 32, pairs, []api.Value{list(a, w), list(c, v)}},
		{heap.HSet, 32, []api.Value{c, a, c}, []api.Value{a, c}},
		{heap.HVec, 0, []api.Value{c, a, c}, []api.Value{c, a, c}},
		{heap.HSorted, 1, pairs, []api.Value{list(c, v), list(a, w)}},
		{heap.HSorts, 1, []api.Value{a, c, a}, []api.Value{c, a}},
		{heap.HDeque, 0, []api.Value{c, a, c}, []api.Value{c, a, c}},
		{heap.HQueue, 1, []api.Value{c, a, c}, []api.Value{c, c, a}},
		{heap.HMulti, 32, append(pairs, list(c, a), list(a, v)), []api.Value{list(a, v), list(a, w), list(c, a), list(c, v)}},
		{heap.HBimap, 32, pairs, []api.Value{list(a, w), list(c, v)}},
	} {
		b := begun(t)
		n := b.makes(heap.OpSeq, none(), b.of(x.kind, x.k, x.members...))
		if kind, _ := b.h.Kind(n); kind != heap.HSeq {
			t.Errorf("kind %d", kind)
		}
		for most := range len(x.want) + 2 {
			b.tells(list(x.want[:min(most, len(x.want))]...), heap.OpTake, none(), n, most, 0)
		}
		empty := b.makes(heap.OpSeq, none(), b.of(x.kind, x.k))
		b.tells(list(), heap.OpTake, none(), empty, 3, 0)
		b.fails(api.ErrWrong, heap.OpTell, none(), n)
		if v, e := b.h.Tell(n); !sample.Same(v, none()) || e != api.ErrWrong {
			t.Errorf("Tell of a seq: %v, %v", v, e)
		}
	}
}

// OpIter, OpMap, OpKeep of each function and each question.
func TestFunctions(t *testing.T) {
	b := begun(t)
	items := []api.Value{num(5), str("éa"), none(), list(num(4), num(3)), num(-2), set(), num(6), sample.Bool(1)}
	base := b.makes(heap.OpSeq, none(), b.of(heap.HVec, 0, items...))
	for fn := api.FnSame; fn <= api.FnHalf; fn++ {
		for _, v := range items {
			var want []api.Value
			for w := v; len(want) < 4; w, _ = fns.One(fn, w) {
				want = append(want, w)
			}
			b.tells(list(want...), heap.OpTake, none(), b.makes(heap.OpIter, v, fn), 4, 4)
		}
		var want []api.Value
		for _, v := range items {
			w, _ := fns.One(fn, v)
			want = append(want, w)
		}
		b.tells(list(want...), heap.OpTake, none(), b.makes(heap.OpMap, none(), base, fn), 99, 9)
	}
	for q := api.IsAll; q <= api.IsNil; q++ {
		var want []api.Value
		for _, v := range items {
			if is, _ := fns.Is(q, v); is {
				want = append(want, v)
			}
		}
		b.tells(list(want...), heap.OpTake, none(), b.makes(heap.OpKeep, none(), base, q), 99, 9)
	}
}

// OpIter, OpMap, OpKeep: numbers that are no functions, no questions; a Val of OpIter that is not right, behind that.
func TestFunctionsThatAreNone(t *testing.T) {
	b := begun(t)
	seq := b.makes(heap.OpSeq, none(), b.of(heap.HVec, 0, num(1)))
	for _, fn := range sample.Beyond(api.FnHalf) {
		b.fails(api.ErrKind, heap.OpIter, num(1), fn)
		b.fails(api.ErrKind, heap.OpIter, sample.Bool(2), fn)
		b.fails(api.ErrKind, heap.OpMap, none(), seq, fn)
	}
	for _, q := range sample.Beyond(api.IsNil) {
		b.fails(api.ErrKind, heap.OpKeep, none(), seq, q)
	}
	for _, w := range sample.Wrongs() {
		b.fails(api.ErrValue, heap.OpIter, w, api.FnInc)
	}
}

// OpTake: numbers that are out of their range.
func TestTakeOutOfRange(t *testing.T) {
	b := begun(t)
	seq := b.makes(heap.OpSeq, none(), b.of(heap.HVec, 0, num(1)))
	for _, n := range sample.Beyond(api.MaxLen) {
		b.fails(api.ErrArg, heap.OpTake, none(), seq, n, 0)
		b.fails(api.ErrArg, heap.OpTake, none(), seq, n, -1)
	}
	for _, fuel := range sample.Beyond(api.MaxFuel) {
		b.fails(api.ErrArg, heap.OpTake, none(), seq, 1, fuel)
		b.fails(api.ErrArg, heap.OpTake, none(), seq, 0, fuel)
	}
	b.tells(list(num(1)), heap.OpTake, none(), seq, api.MaxLen, api.MaxFuel)
	b.tells(list(), heap.OpTake, none(), seq, 0, 0)
}

// OpTake: the fuel, cell by cell; what was forced stays known, beside an error too, whichever handle it was forced by.
func TestFuel(t *testing.T) {
	b := begun(t)
	iter := b.makes(heap.OpIter, num(0), api.FnInc)
	b.tells(list(), heap.OpTake, none(), iter, 0, 0)
	b.fails(api.ErrFuel, heap.OpTake, none(), iter, 1, 0)
	b.fails(api.ErrFuel, heap.OpTake, none(), iter, 3, 2)
	b.tells(list(nums(0, 1)...), heap.OpTake, none(), iter, 2, 0)
	b.fails(api.ErrFuel, heap.OpTake, none(), iter, 3, 0)
	b.tells(list(nums(0, 1, 2)...), heap.OpTake, none(), iter, 3, 1)

	// Three of its cells are known: each of the first three takes one for itself, the fourth two.
	even := b.makes(heap.OpMap, none(), iter, api.FnHalf)
	b.tells(list(nums(0, 0, 1)...), heap.OpTake, none(), even, 3, 3)
	b.fails(api.ErrFuel, heap.OpTake, none(), even, 4, 1)
	b.tells(list(nums(0, 0, 1, 1)...), heap.OpTake, none(), even, 4, 2)
	b.tells(list(nums(0, 1, 2, 3)...), heap.OpTake, none(), iter, 4, 0)

	// Of a seq that keeps nothing, nothing comes with any fuel; what it passed over is known.
	nothing := b.makes(heap.OpKeep, none(), iter, api.IsNone)
	b.fails(api.ErrFuel, heap.OpTake, none(), nothing, 1, 10)
	b.tells(list(sample.Numbers(13)...), heap.OpTake, none(), iter, 13, 0)
	b.fails(api.ErrFuel, heap.OpTake, none(), iter, 14, 0)

	ended := b.makes(heap.OpMap, none(), b.makes(heap.OpSeq, none(), b.of(heap.HVec, 0, num(1))), api.FnNeg)
	b.tells(list(num(-1)), heap.OpTake, none(), ended, 1, 1)
	b.fails(api.ErrFuel, heap.OpTake, none(), ended, 2, 0)
	b.tells(list(num(-1)), heap.OpTake, none(), ended, 2, 1)
	b.tells(list(num(-1)), heap.OpTake, none(), ended, 99, 0)
}

// OpTake: what is taken must be right as a value.
func TestTakeOfMuch(t *testing.T) {
	b := begun(t)
	iter := b.makes(heap.OpIter, num(0), api.FnInc)
	b.tells(list(sample.Numbers(api.MaxParts-1)...), heap.OpTake, none(), iter, api.MaxParts-1, api.MaxParts-1)
	b.fails(api.ErrLong, heap.OpTake, none(), iter, api.MaxParts, 1)
	b.fails(api.ErrFuel, heap.OpTake, none(), iter, api.MaxParts+1, 0)
	b.fails(api.ErrLong, heap.OpTake, none(), iter, api.MaxLen, api.MaxFuel)
	deep := b.makes(heap.OpIter, num(0), api.FnWrap)
	b.tells(list(num(0), list(num(0))), heap.OpTake, none(), deep, 2, 2)
	if a := b.do(heap.OpTake, none(), deep, 16, 16); a.Code != api.OK || len(a.Val.Items) != 16 {
		t.Errorf("16 of a seq that gets deeper: %v", a.Code)
	}
	b.fails(api.ErrLong, heap.OpTake, none(), deep, 17, 1)
}

// A seq says what it said, whatever is done to what it was made of.
func TestSeqOfWhatChanges(t *testing.T) {
	b := begun(t)
	vec := b.of(heap.HVec, 0, nums(1, 2)...)
	seq := b.makes(heap.OpSeq, none(), vec)
	open := b.makes(heap.OpBegin, none(), vec)
	b.tells(none(), heap.OpPush, num(3), open)
	b.makes(heap.OpSeal, none(), open)
	b.pops(num(2), vec)
	b.tells(list(nums(1, 2)...), heap.OpTake, none(), seq, 9, 0)
	b.tells(list(nums(1, 2)...), heap.OpTake, none(), b.makes(heap.OpSeq, none(), vec), 9, 0)
}
