package tvec_test

import (
	"fmt"
	"math"
	"slices"
	"strings"
	"testing"
	"unsafe"

	"spinney/api"
	"spinney/concat"
	"spinney/model"
	"spinney/rrb"
	"spinney/sample"
	"spinney/tvec"
)

func none() api.Value                   { return api.Value{} }
func num(n int64) api.Value             { return sample.Num(n) }
func str(s string) api.Value            { return sample.Str(s) }
func list(items ...api.Value) api.Value { return sample.List(items...) }

// ints are numbers, one by one.
func ints(l ...int64) []api.Value {
	var out []api.Value
	for _, n := range l {
		out = append(out, num(n))
	}
	return out
}

// short is what a failing test shows of something that may be long.
func short(x any) string {
	s := fmt.Sprint(x)
	return s[:min(len(s), 200)]
}

// ok is for an error that must be none.
func ok(t *testing.T, e api.Errno) {
	t.Helper()
	if e != api.OK {
		t.Fatalf("%v", e)
	}
}

// must is what came without an error.
func must[C any](c C, e api.Errno) C {
	if e != api.OK {
		panic(e)
	}
	return c
}

// check asks a vector everything, against a plain list.
func check(t *testing.T, v *rrb.Vec, plain []api.Value) {
	t.Helper()
	if wrong := model.WrongOfVec(v, plain); v == nil || wrong != "" {
		t.Fatalf("%s is wrong: %s of %d levels, want %s", wrong, short(v.Items()), v.Height(), short(plain))
	}
}

// checkHeld asks an open transient what it has, against a plain list.
func checkHeld(t *testing.T, x *tvec.Vec, plain []api.Value) {
	t.Helper()
	if n, e := x.Len(); n != len(plain) || e != api.OK {
		t.Fatalf("Len: %d, %v, want %d", n, e, len(plain))
	}
	for i, want := range plain {
		if got, e := x.Nth(i); !sample.Same(got, want) || e != api.OK {
			t.Fatalf("Nth(%d): %s, %v, want %s", i, short(got), e, short(want))
		}
	}
	for _, i := range []int{-1, len(plain), math.MinInt, math.MaxInt} {
		if got, e := x.Nth(i); !sample.Same(got, none()) || e != api.ErrRange {
			t.Fatalf("Nth(%d): %s, %v", i, short(got), e)
		}
	}
}

func checkPop(t *testing.T, x *tvec.Vec, want api.Value, wantError api.Errno) {
	t.Helper()
	if got, e := x.Pop(); !sample.Same(got, want) || e != wantError {
		t.Fatalf("Pop: %s, %v, want %s, %v", short(got), e, short(want), wantError)
	}
}

// checkSealed asks for what every call of a sealed transient tells, whatever it is given.
func checkSealed(t *testing.T, x *tvec.Vec) {
	t.Helper()
	if n, e := x.Len(); n != 0 || e != api.ErrSeal {
		t.Errorf("Len: %d, %v", n, e)
	}
	for _, i := range []int{0, 1, -1, math.MinInt, math.MaxInt} {
		if got, e := x.Nth(i); !sample.Same(got, none()) || e != api.ErrSeal {
			t.Errorf("Nth(%d): %v, %v", i, got, e)
		}
		for _, v := range []api.Value{num(1), none(), sample.Bool(2)} {
			if e := x.Set(i, v); e != api.ErrSeal {
				t.Errorf("Set(%d, %v): %v", i, v, e)
			}
		}
	}
	for _, v := range []api.Value{num(1), none(), sample.Bool(2)} {
		if e := x.Push(v); e != api.ErrSeal {
			t.Errorf("Push(%v): %v", v, e)
		}
	}
	checkPop(t, x, none(), api.ErrSeal)
	if v, e := x.Seal(); v != nil || e != api.ErrSeal {
		t.Errorf("Seal: %v, %v", v, e)
	}
}

// lengths are those around which nodes and levels of a vector are full.
func lengths() []int { return []int{0, 1, 2, 31, 32, 33, 64, 65, 1023, 1024, 1025, 2000} }

// relaxed is a vector of the same items whose nodes are not full, since it was put together of pieces.
func relaxed(s *sample.Source, plain []api.Value) *rrb.Vec {
	var pieces []*rrb.Vec
	for len(plain) > 0 {
		n := 1 + s.Below(min(50, len(plain)))
		pieces = append(pieces, must(rrb.Of(plain[:n])))
		plain = plain[n:]
	}
	return must(concat.All(pieces))
}

// The chapter's example.
func TestExample(t *testing.T) {
	first := must(rrb.Of(ints(1, 2)))
	x := tvec.Begin(first)
	ok(t, x.Push(num(3)))
	ok(t, x.Set(0, num(9)))
	sealed := must(x.Seal())
	check(t, sealed, ints(9, 2, 3))
	if e := x.Push(num(4)); e != api.ErrSeal {
		t.Errorf("Push: %v", e)
	}
	check(t, first, ints(1, 2))
	check(t, sealed, ints(9, 2, 3))
}

// DOC.md's example 6.
func TestExampleOfTheWhole(t *testing.T) {
	x := tvec.Begin(must(rrb.Of(ints(1, 2))))
	ok(t, x.Push(num(3)))
	check(t, must(x.Seal()), ints(1, 2, 3))
	if e := x.Push(num(3)); e != api.ErrSeal {
		t.Errorf("Push: %v", e)
	}
}

// 13.1: begun and sealed at once.
func TestBegin(t *testing.T) {
	s := sample.New(1)
	for _, n := range lengths() {
		plain := sample.Numbers(n)
		for _, v := range []*rrb.Vec{must(rrb.Of(plain)), relaxed(s, plain)} {
			x := tvec.Begin(v)
			checkHeld(t, x, plain)
			check(t, must(x.Seal()), plain)
			checkSealed(t, x)
			check(t, v, plain)
		}
	}
}

// 13.1, R6: a transient of nil is an open one without items, and so is one of a zero vector.
func TestBeginWithNil(t *testing.T) {
	for _, v := range []*rrb.Vec{nil, {}, rrb.New()} {
		x := tvec.Begin(v)
		checkHeld(t, x, nil)
		checkPop(t, x, none(), api.ErrEmpty)
		if e := x.Set(0, num(1)); e != api.ErrRange {
			t.Errorf("Set: %v", e)
		}
		check(t, must(x.Seal()), nil)
		checkSealed(t, x)
		x = tvec.Begin(v)
		ok(t, x.Push(num(1)))
		checkHeld(t, x, ints(1))
		check(t, must(x.Seal()), ints(1))
		if v.Len() != 0 {
			t.Errorf("a vector that is not empty any more: %v", v.Items())
		}
	}
}

// 13.2; and a zero transient is sealed, too.
func TestSealedFromTheFirst(t *testing.T) {
	checkSealed(t, nil)
	checkSealed(t, &tvec.Vec{})
}

// 13.1: a copy of a transient is that transient, and is sealed with it.
func TestCopyOfATransient(t *testing.T) {
	x := tvec.Begin(must(rrb.Of(ints(1, 2))))
	copied := *x
	ok(t, x.Push(num(3)))
	ok(t, copied.Push(num(4)))
	checkHeld(t, x, ints(1, 2, 3, 4))
	checkHeld(t, &copied, ints(1, 2, 3, 4))
	sealed := must(copied.Seal())
	checkSealed(t, &copied)
	checkSealed(t, x)
	check(t, sealed, ints(1, 2, 3, 4))
}

// 13.1: pushed one by one, and popped down to none.
func TestPushAndPop(t *testing.T) {
	const most = 1100
	x := tvec.Begin(nil)
	for n := range int64(most) {
		ok(t, x.Push(num(n)))
		if got, e := x.Nth(int(n)); got.Num != n || e != api.OK {
			t.Fatalf("Nth(%d): %v, %v", n, got, e)
		}
	}
	checkHeld(t, x, sample.Numbers(most))
	for n := int64(most) - 1; n >= 0; n-- {
		checkPop(t, x, num(n), api.OK)
		if left, e := x.Len(); left != int(n) || e != api.OK {
			t.Fatalf("Len: %d, %v, want %d", left, e, n)
		}
	}
	checkPop(t, x, none(), api.ErrEmpty)
	checkPop(t, x, none(), api.ErrEmpty)
	ok(t, x.Push(num(7)))
	check(t, must(x.Seal()), ints(7))
}

// 13.1: each place is set, of vectors of many lengths.
func TestSet(t *testing.T) {
	s := sample.New(2)
	for _, n := range lengths() {
		v := relaxed(s, sample.Numbers(n))
		x := tvec.Begin(v)
		var want []api.Value
		for i := range n {
			item := list(num(int64(i)), str("x"))
			ok(t, x.Set(i, num(-1)))
			ok(t, x.Set(i, item))
			want = append(want, item)
		}
		checkHeld(t, x, want)
		check(t, must(x.Seal()), want)
		check(t, v, sample.Numbers(n))
	}
}

// trial is a transient with what the same steps made of a vector and of a plain list.
type trial struct {
	x     *tvec.Vec
	v     *rrb.Vec
	plain []api.Value
}

// step does one thing to all three.
func (r *trial) step(t *testing.T, s *sample.Source) {
	t.Helper()
	n := len(r.plain)
	item := s.Value(2)
	switch s.Below(7) {
	case 0, 1, 2:
		ok(t, r.x.Push(item))
		r.v, r.plain = must(r.v.Push(item)), append(slices.Clone(r.plain), item)
	case 3, 4:
		r.pop(t)
	case 5:
		if n == 0 {
			return
		}
		i := s.Below(n)
		ok(t, r.x.Set(i, item))
		r.v, r.plain = must(r.v.Set(i, item)), slices.Clone(r.plain)
		r.plain[i] = item
	case 6:
		// What is refused changes nothing.
		wrongs := []api.Errno{r.x.Set(n, item), r.x.Set(-1, item), r.x.Set(0, sample.Bool(2)), r.x.Push(sample.Bool(2))}
		if !slices.Equal(wrongs, []api.Errno{api.ErrRange, api.ErrRange, api.ErrValue, api.ErrValue}) {
			t.Fatalf("%v", wrongs)
		}
	}
}

func (r *trial) pop(t *testing.T) {
	t.Helper()
	n := len(r.plain)
	if n == 0 {
		checkPop(t, r.x, none(), api.ErrEmpty)
		return
	}
	checkPop(t, r.x, r.plain[n-1], api.OK)
	r.v, _, _ = r.v.Pop()
	r.plain = r.plain[:n-1]
}

// checkEnd seals the transient: it is what the same steps made of the vector.
func (r *trial) checkEnd(t *testing.T) *rrb.Vec {
	t.Helper()
	sealed := must(r.x.Seal())
	check(t, sealed, r.plain)
	if !concat.Equal(sealed, r.v) {
		t.Fatalf("sealed %s, want %s", short(sealed.Items()), short(r.v.Items()))
	}
	checkSealed(t, r.x)
	return sealed
}

// 13.1, P7: the same steps, of vectors of many lengths.
func TestSteps(t *testing.T) {
	for seed, n := range lengths() {
		s := sample.New(uint64(seed))
		plain := s.Values(n, 1)
		start := relaxed(s, plain)
		for range 4 {
			r := trial{tvec.Begin(start), start, plain}
			for range 60 {
				r.step(t, s)
				checkHeld(t, r.x, r.plain)
			}
			// What was sealed is what the next transient begins with.
			sealed := r.checkEnd(t)
			check(t, start, plain)
			start, plain = sealed, r.plain
		}
	}
}

// 13.3, P3: transients of one vector, and of what others sealed, are changed in turn; every vector stays as it was.
func TestNothingElseMoves(t *testing.T) {
	for seed, n := range lengths() {
		s := sample.New(100 + uint64(seed))
		plain := s.Values(n, 1)
		start := must(rrb.Of(plain))
		type version struct {
			v     *rrb.Vec
			plain []api.Value
		}
		versions := []version{{start, plain}}
		var trials []*trial
		for range 3 {
			trials = append(trials, &trial{tvec.Begin(start), start, plain})
		}
		for turn := range 120 {
			r := trials[s.Below(len(trials))]
			r.step(t, s)
			for _, other := range trials {
				checkHeld(t, other.x, other.plain)
			}
			if turn%30 == 29 {
				sealed := r.checkEnd(t)
				versions = append(versions, version{sealed, r.plain})
				*r = trial{tvec.Begin(sealed), sealed, r.plain}
				trials = append(trials, &trial{tvec.Begin(sealed), sealed, r.plain})
			}
		}
		for _, r := range trials {
			r.checkEnd(t)
		}
		for _, old := range versions {
			check(t, old.v, old.plain)
		}
	}
}

// 13.3: what is made of a vector by its own calls, what is gone over, and what a transient does leave each other alone.
func TestBesideTheVectorsOwnCalls(t *testing.T) {
	for _, n := range []int{2, 32, 33, 1024, 1025} {
		plain := sample.Numbers(n)
		v := must(rrb.Of(plain))
		x := tvec.Begin(v)
		seq := v.From(0)
		pushed := must(v.Push(num(-1)))
		ok(t, x.Push(num(-2)))
		for i := range seq {
			ok(t, x.Set(i, num(-3)))
		}
		set := must(v.Set(n-1, num(-4)))
		sealed := must(x.Seal())
		more := must(sealed.Push(num(-5)))
		threes := slices.Repeat(ints(-3), n)
		check(t, v, plain)
		check(t, pushed, slices.Concat(plain, ints(-1)))
		check(t, set, slices.Concat(plain[:n-1], ints(-4)))
		check(t, sealed, slices.Concat(threes, ints(-2)))
		check(t, more, slices.Concat(threes, ints(-2, -5)))
	}
}

// 13.1, as chapter 11: MaxLen items, and one more.
func TestMaxLen(t *testing.T) {
	x := tvec.Begin(must(rrb.Of(sample.Numbers(api.MaxLen - 100))))
	for n := api.MaxLen - 100; n < api.MaxLen; n++ {
		ok(t, x.Push(num(int64(n))))
	}
	for range 3 {
		if e := x.Push(num(0)); e != api.ErrLong {
			t.Errorf("one more: %v", e)
		}
		if e := x.Push(sample.Bool(2)); e != api.ErrValue {
			t.Errorf("one more that is not right: %v", e)
		}
	}
	checkHeld(t, x, sample.Numbers(api.MaxLen))
	checkPop(t, x, num(api.MaxLen-1), api.OK)
	ok(t, x.Push(num(-1)))
	ok(t, x.Set(0, num(-2)))
	if e := x.Push(num(0)); e != api.ErrLong {
		t.Errorf("one more again: %v", e)
	}
	check(t, must(x.Seal()), slices.Concat(ints(-2), sample.Numbers(api.MaxLen - 1)[1:], ints(-1)))
}

// 13.1: up to MaxLen, from none on.
func TestPushAll(t *testing.T) {
	x := tvec.Begin(nil)
	for _, item := range sample.Numbers(api.MaxLen) {
		ok(t, x.Push(item))
	}
	check(t, must(x.Seal()), sample.Numbers(api.MaxLen))
}

// 13.1, R1, R4: values that are not right, ahead of places out of range; nothing has changed.
func TestWrongs(t *testing.T) {
	for _, n := range []int{0, 1, 33} {
		x := tvec.Begin(must(rrb.Of(sample.Numbers(n))))
		for _, w := range sample.Wrongs() {
			if e := x.Push(w); e != api.ErrValue {
				t.Errorf("Push(%s): %v", short(w), e)
			}
			for _, i := range []int{0, -1, n - 1, n, math.MinInt, math.MaxInt} {
				if e := x.Set(i, w); e != api.ErrValue {
					t.Errorf("Set(%d, %s): %v", i, short(w), e)
				}
			}
		}
		for _, i := range []int{-1, n, n + 1, -n - 1, 1 << 32, math.MinInt, math.MaxInt} {
			if e := x.Set(i, num(1)); e != api.ErrRange {
				t.Errorf("Set(%d): %v", i, e)
			}
		}
		checkHeld(t, x, sample.Numbers(n))
		check(t, must(x.Seal()), sample.Numbers(n))
	}
}

// nested are items that hold lists, in memory of their own.
func nested(n int) []api.Value {
	var out []api.Value
	for i := range int64(n) {
		out = append(out, list(num(i), sample.Map(num(i), list(num(1), str("x")))))
	}
	return out
}

// R3: what is handed in stays as it is, and is not kept.
func TestArgumentsStay(t *testing.T) {
	l := sample.RoomyAll(nested(40))
	x := tvec.Begin(nil)
	for _, item := range l {
		ok(t, x.Push(num(0)))
		ok(t, x.Set(must(x.Len())-1, item))
		ok(t, x.Push(item))
	}
	if !sample.SameAll(l, nested(40)) || !sample.RoomKept(l) {
		t.Errorf("changed: %s", short(l))
	}
	sample.Spoil(l)
	var want []api.Value
	for _, item := range nested(40) {
		want = append(want, item, item)
	}
	checkHeld(t, x, want)
	check(t, must(x.Seal()), want)
}

// R3: writing over answers changes nothing that a transient or a vector tells.
func TestAnswersAreNew(t *testing.T) {
	v := must(rrb.Of(nested(40)))
	x, y := tvec.Begin(v), tvec.Begin(v)
	ok(t, x.Push(list(num(7))))
	for i := range 40 {
		sample.Spoil(must(x.Nth(i)).Items)
	}
	popped := must(y.Pop())
	sample.Spoil(popped.Items)
	checkHeld(t, x, append(nested(40), list(num(7))))
	checkHeld(t, y, nested(39))
	sealed := must(x.Seal())
	sample.Spoil(sealed.Items())
	sample.Spoil(v.Items())
	check(t, sealed, append(nested(40), list(num(7))))
	check(t, must(y.Seal()), nested(39))
	check(t, v, nested(40))
}

// R3
func TestTextsAreNew(t *testing.T) {
	long := strings.Repeat("a", api.MaxText)
	x := tvec.Begin(nil)
	ok(t, x.Push(str(long)))
	ok(t, x.Push(none()))
	ok(t, x.Set(1, str(long)))
	seen := []*byte{unsafe.StringData(long)}
	look := func(v api.Value) {
		t.Helper()
		at := unsafe.StringData(v.Text)
		if v.Text != long || slices.Contains(seen, at) {
			t.Errorf("the text is not new memory: %q", v.Text)
		}
		seen = append(seen, at)
	}
	for i := range 2 {
		look(must(x.Nth(i)))
		look(must(x.Nth(i)))
	}
	look(must(x.Pop()))
	look(must(x.Seal()).Items()[0])
}

// R2: items without an element, nil and empty.
func TestNilAndEmptyItems(t *testing.T) {
	l := []api.Value{{Kind: api.VList}, {Kind: api.VList, Items: []api.Value{}}, {Kind: api.VSet, Items: []api.Value{}}, {Kind: api.VMap}, {Items: []api.Value{}}}
	x := tvec.Begin(nil)
	for _, item := range l {
		ok(t, x.Push(item))
	}
	check(t, must(x.Seal()), l)
}
