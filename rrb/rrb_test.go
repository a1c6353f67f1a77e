package rrb_test

import (
	"fmt"
	"iter"
	"math"
	"slices"
	"strings"
	"testing"
	"unsafe"

	"spinney/api"
	"spinney/model"
	"spinney/rrb"
	"spinney/sample"
)

func none() api.Value                   { return api.Value{} }
func num(n int64) api.Value             { return sample.Num(n) }
func str(s string) api.Value            { return sample.Str(s) }
func list(items ...api.Value) api.Value { return sample.List(items...) }

// short is what a failing test shows of something that may be long.
func short(x any) string {
	s := fmt.Sprint(x)
	return s[:min(len(s), 200)]
}

// must is a vector that came without an error.
func must(t *testing.T) func(*rrb.Vec, api.Errno) *rrb.Vec {
	return func(v *rrb.Vec, e api.Errno) *rrb.Vec {
		t.Helper()
		if v == nil || e != api.OK {
			t.Fatalf("no vector: %v", e)
		}
		return v
	}
}

func of(t *testing.T, l []api.Value) *rrb.Vec {
	t.Helper()
	return must(t)(rrb.Of(l))
}

// check asks a vector everything, against a plain list.
func check(t *testing.T, v *rrb.Vec, plain []api.Value) {
	t.Helper()
	if wrong := model.WrongOfVec(v, plain); v == nil || wrong != "" {
		t.Fatalf("%s is wrong: %s of %d levels, want %s", wrong, short(v.Items()), v.Height(), short(plain))
	}
}

// refused is for what must have been no vector, but an error.
func refused(t *testing.T, want api.Errno) func(*rrb.Vec, api.Errno) {
	return func(v *rrb.Vec, e api.Errno) {
		t.Helper()
		if v != nil || e != want {
			t.Fatalf("%v, want %v", e, want)
		}
	}
}

// lengths are those around which nodes and levels are full, up to the greatest one.
func lengths() []int {
	return []int{0, 1, 2, 15, 16, 17, 31, 32, 33, 63, 64, 65, 511, 512, 513, 1023, 1024, 1025, 1056, 1057, 2000, 4096, 32767, 32768, 32769, api.MaxLen - 1, api.MaxLen}
}

// nearby are the places of a vector of n items at which nodes may begin and end, and its first and last ones.
func nearby(n int) []int {
	var out []int
	for _, i := range []int{0, 1, 15, 16, 31, 32, 33, 1023, 1024, 1025, 32767, 32768, n / 2, n - 33, n - 32, n - 2, n - 1} {
		if i >= 0 && i < n && !slices.Contains(out, i) {
			out = append(out, i)
		}
	}
	return out
}

// replaced is a plain list with another item in a place.
func replaced(l []api.Value, i int, x api.Value) []api.Value {
	out := slices.Clone(l)
	out[i] = x
	return out
}

// The chapter's example.
func TestExample(t *testing.T) {
	v := of(t, sample.Numbers(100))
	w := must(t)(v.Set(40, str("x")))
	if x, e := w.Nth(40); e != api.OK || !sample.Same(x, str("x")) {
		t.Errorf("Nth: %v, %v", x, e)
	}
	if x, e := v.Nth(40); e != api.OK || !sample.Same(x, num(40)) {
		t.Errorf("Nth of the old one: %v, %v", x, e)
	}
	check(t, w, replaced(sample.Numbers(100), 40, str("x")))
	check(t, v, sample.Numbers(100))
}

// DOC.md's example 4.
func TestExampleOfTheWhole(t *testing.T) {
	v := of(t, sample.Numbers(2000))
	if v.Height() > 5 {
		t.Errorf("Height: %d", v.Height())
	}
	w := must(t)(v.Set(1999, none()))
	check(t, w, append(sample.Numbers(1999), none()))
	check(t, v, sample.Numbers(2000))
}

// 11.1
func TestNew(t *testing.T) {
	v := rrb.New()
	check(t, v, nil)
	must(t)(v.Push(num(1)))
	check(t, v, nil)
	check(t, rrb.New(), nil)
}

// 11.1, 11.4
func TestOf(t *testing.T) {
	check(t, of(t, nil), nil)
	check(t, of(t, []api.Value{}), nil)
	for _, n := range lengths() {
		check(t, of(t, sample.Numbers(n)), sample.Numbers(n))
	}
	for n := range 1100 {
		if v := of(t, sample.Numbers(n)); v.Len() != n || !model.HeightFits(n, v.Height()) {
			t.Errorf("%d items: %d of %d levels", n, v.Len(), v.Height())
		}
	}
	s := sample.New(1)
	for range 50 {
		l := s.Values(s.Below(100), 3)
		check(t, of(t, l), l)
	}
}

// 11.1, R1: the length first, then the first item that is not right.
func TestOfWrong(t *testing.T) {
	for _, x := range sample.Wrongs() {
		for _, l := range [][]api.Value{{x}, {num(1), x}, append(sample.Numbers(40), x), append(sample.Numbers(api.MaxLen-1), x), {x, num(1)}} {
			refused(t, api.ErrValue)(rrb.Of(l))
		}
		refused(t, api.ErrLong)(rrb.Of(append(sample.Numbers(api.MaxLen), x)))
	}
	refused(t, api.ErrLong)(rrb.Of(sample.Numbers(api.MaxLen + 1)))
	refused(t, api.ErrLong)(rrb.Of(make([]api.Value, 1<<20)))
}

// 11.1
func TestNthOutOfRange(t *testing.T) {
	for _, n := range []int{0, 1, 32, 33, 1024, 1025} {
		v := of(t, sample.Numbers(n))
		for _, i := range sample.Beyond(n - 1) {
			if i >= 0 && i < n {
				continue
			}
			if x, e := v.Nth(i); e != api.ErrRange || !sample.Same(x, none()) {
				t.Errorf("of %d: Nth(%d): %v, %v", n, i, x, e)
			}
			refused(t, api.ErrRange)(v.Set(i, num(1)))
			refused(t, api.ErrValue)(v.Set(i, sample.Bool(2)))
		}
		check(t, v, sample.Numbers(n))
	}
}

// 11.2, 11.5
func TestSet(t *testing.T) {
	for _, n := range lengths() {
		v, plain := of(t, sample.Numbers(n)), sample.Numbers(n)
		for k, i := range nearby(n) {
			x := list(num(int64(k)), str("x"))
			check(t, must(t)(v.Set(i, x)), replaced(plain, i, x))
			// Set again of what was set, in another place and in the same one.
			v, plain = must(t)(v.Set(i, num(-1))), replaced(plain, i, num(-1))
			check(t, must(t)(v.Set(i, num(-2))), replaced(plain, i, num(-2)))
		}
		check(t, v, plain)
	}
	v := of(t, sample.Numbers(70))
	for i := range 70 {
		check(t, must(t)(v.Set(i, none())), replaced(sample.Numbers(70), i, none()))
		check(t, must(t)(v.Set(i, num(int64(i)))), sample.Numbers(70))
	}
}

// 11.2, R1: what is wrong with the item, ahead of all else; nothing has changed.
func TestWrongItems(t *testing.T) {
	full := of(t, sample.Numbers(api.MaxLen))
	for _, v := range []*rrb.Vec{nil, rrb.New(), of(t, sample.Numbers(33)), full} {
		for _, x := range sample.Wrongs() {
			refused(t, api.ErrValue)(v.Push(x))
			for _, i := range []int{0, -1, v.Len(), math.MaxInt, math.MinInt} {
				refused(t, api.ErrValue)(v.Set(i, x))
			}
		}
	}
	check(t, full, sample.Numbers(api.MaxLen))
}

// 11.2, 11.4, 11.5: pushed one by one, and popped again.
func TestPushAndPop(t *testing.T) {
	const most = 1100
	plain := sample.Numbers(most)
	versions := []*rrb.Vec{rrb.New()}
	for n := range most {
		v := must(t)(versions[n].Push(num(int64(n))))
		check(t, v, plain[:n+1])
		versions = append(versions, v)
	}
	v := versions[most]
	for n := most; n > 0; n-- {
		w, x, e := v.Pop()
		if e != api.OK || !sample.Same(x, num(int64(n-1))) {
			t.Fatalf("Pop of %d: %v, %v", n, x, e)
		}
		check(t, w, plain[:n-1])
		v = w
	}
	for n, v := range versions {
		check(t, v, plain[:n])
	}
}

// 11.2, 11.4: up to MaxLen and down again.
func TestPushAndPopAll(t *testing.T) {
	plain := sample.Numbers(api.MaxLen)
	v := rrb.New()
	for n, x := range plain {
		v = must(t)(v.Push(x))
		if last, e := v.Nth(n); e != api.OK || last.Num != x.Num || v.Len() != n+1 || !model.HeightFits(n+1, v.Height()) {
			t.Fatalf("Push of %d: %v, %v, %d levels", n, last, e, v.Height())
		}
		if slices.Contains(lengths(), n+1) {
			check(t, v, plain[:n+1])
		}
	}
	refused(t, api.ErrLong)(v.Push(num(0)))
	check(t, v, plain)
	for n := api.MaxLen; n > 0; n-- {
		w, x, e := v.Pop()
		if e != api.OK || x.Num != int64(n-1) || w.Len() != n-1 || !model.HeightFits(n-1, w.Height()) {
			t.Fatalf("Pop of %d: %v, %v, %d levels", n, x, e, w.Height())
		}
		if slices.Contains(lengths(), n-1) {
			check(t, w, plain[:n-1])
		}
		v = w
	}
}

// 11.5: Pop of Push is the vector, and the item.
func TestPopOfPush(t *testing.T) {
	for _, n := range lengths() {
		v := of(t, sample.Numbers(n))
		if n == api.MaxLen {
			refused(t, api.ErrLong)(v.Push(num(1)))
			continue
		}
		x := list(str("x"), num(int64(n)))
		w := must(t)(v.Push(x))
		check(t, w, append(sample.Numbers(n), x))
		back, last, e := w.Pop()
		if e != api.OK || !sample.Same(last, x) {
			t.Errorf("Pop: %v, %v", last, e)
		}
		check(t, back, sample.Numbers(n))
		check(t, w, append(sample.Numbers(n), x))
		check(t, v, sample.Numbers(n))
	}
}

// 11.2, R4
func TestPopOfNone(t *testing.T) {
	gone, _, _ := of(t, sample.Numbers(1)).Pop()
	for _, v := range []*rrb.Vec{nil, {}, rrb.New(), of(t, nil), gone} {
		if w, x, e := v.Pop(); w != nil || !sample.Same(x, none()) || e != api.ErrEmpty {
			t.Errorf("Pop: %v, %v, %v", w, x, e)
		}
	}
}

// places are those that an iterator goes over, with its items; it is left behind so many.
func places(seq iter.Seq2[int, api.Value], most int) (at []int, items []api.Value) {
	for i, x := range seq {
		at, items = append(at, i), append(items, x)
		if len(at) == most {
			break
		}
	}
	return at, items
}

// 11.3
func TestFrom(t *testing.T) {
	for _, n := range []int{0, 1, 2, 31, 32, 33, 64, 65, 1023, 1024, 1025, 2000, api.MaxLen} {
		v, plain := of(t, sample.Numbers(n)), sample.Numbers(n)
		for _, i := range append(nearby(n), -1, -n, math.MinInt, n, n+1, 2*n+31, math.MaxInt) {
			seq := v.From(i)
			begin := min(max(i, 0), n)
			// Left early, and gone over again, the whole way and again in part.
			for _, most := range []int{1, 0, 33, 0, 2} {
				want := plain[begin:]
				if most > 0 {
					want = want[:min(most, len(want))]
				}
				at, items := places(seq, most)
				if !sample.SameAll(items, want) {
					t.Fatalf("of %d: From(%d), %d of them: %s", n, i, most, short(items))
				}
				for k := range at {
					if at[k] != begin+k {
						t.Fatalf("of %d: From(%d), %d of them: place %d for %d", n, i, most, at[k], begin+k)
					}
				}
			}
		}
	}
}

// 11.3: one iterator within itself, and one that was made ahead of changes.
func TestFromTwiceAtOnce(t *testing.T) {
	v := of(t, sample.Numbers(40))
	seq := v.From(30)
	must(t)(v.Set(35, none()))
	must(t)(v.Push(none()))
	n := 0
	for i, x := range seq {
		k := 30
		for j, y := range seq {
			if j != k || y.Num != int64(k) || x.Num != int64(i) {
				t.Fatalf("%d: %v, %d: %v", i, x, j, y)
			}
			k++
			n++
		}
	}
	if n != 100 {
		t.Errorf("%d", n)
	}
}

// 11.3: value.List's error.
func TestValue(t *testing.T) {
	for _, c := range []struct {
		l    []api.Value
		want api.Errno
	}{
		{nil, api.OK}, {sample.Numbers(api.MaxParts - 1), api.OK}, {sample.Numbers(api.MaxParts), api.ErrLong}, {sample.Numbers(api.MaxLen), api.ErrLong},
		{[]api.Value{sample.Nested(api.MaxDeep-1, num(1))}, api.OK}, {[]api.Value{sample.Nested(api.MaxDeep, num(1))}, api.ErrLong},
		{[]api.Value{list(sample.Numbers(511)...), list(sample.Numbers(510)...)}, api.OK}, {[]api.Value{list(sample.Numbers(511)...), list(sample.Numbers(511)...)}, api.ErrLong},
	} {
		want := list(c.l...)
		if c.want != api.OK {
			want = none()
		}
		if v, e := of(t, c.l).Value(); e != c.want || !sample.Same(v, want) {
			t.Errorf("Value of %s: %s, %v", short(c.l), short(v), e)
		}
	}
}

// R6: nil is an empty vector, and so is a zero one; what is made of them is none that is nil.
func TestNil(t *testing.T) {
	for _, v := range []*rrb.Vec{nil, {}} {
		if wrong := model.WrongOfVec(v, nil); wrong != "" {
			t.Errorf("%s", wrong)
		}
		for range v.From(0) {
			t.Errorf("From goes over something")
		}
		refused(t, api.ErrRange)(v.Set(0, num(1)))
		check(t, must(t)(v.Push(num(1))), []api.Value{num(1)})
	}
}

// version is a vector and what it told when it was made.
type version struct {
	v     *rrb.Vec
	plain []api.Value
}

// changed is another version, by one of the vector's own calls.
func (r version) changed(t *testing.T, s *sample.Source) version {
	t.Helper()
	x := s.Value(2)
	switch kind := s.Below(4); {
	case kind < 2 || len(r.plain) == 0:
		return version{must(t)(r.v.Push(x)), append(slices.Clone(r.plain), x)}
	case kind == 2:
		i := s.Below(len(r.plain))
		return version{must(t)(r.v.Set(i, x)), replaced(r.plain, i, x)}
	}
	last := len(r.plain) - 1
	v, y, e := r.v.Pop()
	if e != api.OK || !sample.Same(y, r.plain[last]) {
		t.Fatalf("Pop: %v, %v", y, e)
	}
	return version{v, slices.Clone(r.plain[:last])}
}

// 11.5, P3: many vectors made of one another, each of any older one.
func TestVersions(t *testing.T) {
	for seed := range uint64(12) {
		s := sample.New(seed)
		plain := s.Values(lengths()[seed+2], 2)
		versions := []version{{of(t, plain), plain}}
		for range 150 {
			made := versions[s.Below(len(versions))].changed(t, s)
			check(t, made.v, made.plain)
			versions = append(versions, made)
		}
		for _, r := range versions {
			check(t, r.v, r.plain)
		}
	}
}

// nested are items that hold lists, in memory of their own.
func nested(n int) []api.Value {
	var out []api.Value
	for i := range int64(n) {
		out = append(out, list(num(i), sample.Map(num(i), list(num(1), str("x")))))
	}
	return out
}

// R3: what is handed in stays as it is, and is not kept.
func TestArgumentsStay(t *testing.T) {
	for _, n := range []int{1, 31, 32, 33, 1025} {
		l := sample.RoomyAll(nested(n))
		v := of(t, l)
		if !sample.SameAll(l, nested(n)) || !sample.RoomKept(l) {
			t.Errorf("Of changed what it was given")
		}
		sample.Spoil(l)
		check(t, v, nested(n))
		x := sample.Roomy(list(num(1), list(num(2))))
		set, pushed := must(t)(v.Set(n-1, x)), must(t)(v.Push(x))
		if !sample.RoomKept(x.Items) || !sample.Same(x, list(num(1), list(num(2)))) {
			t.Errorf("Set or Push changed what it was given")
		}
		sample.Spoil(x.Items)
		check(t, set, replaced(nested(n), n-1, list(num(1), list(num(2)))))
		check(t, pushed, append(nested(n), list(num(1), list(num(2)))))
	}
}

// R3: writing over answers changes nothing that a vector tells.
func TestAnswersAreNew(t *testing.T) {
	for _, n := range []int{1, 31, 32, 33, 500} {
		v := of(t, nested(n))
		w := must(t)(v.Push(list(num(7), list(num(8)))))
		sample.Spoil(v.Items())
		for i := range n {
			x, _ := v.Nth(i)
			sample.Spoil(x.Items)
		}
		for _, x := range v.From(0) {
			sample.Spoil(x.Items)
		}
		all, e := of(t, nested(20)).Value()
		if e != api.OK {
			t.Fatalf("Value: %v", e)
		}
		sample.Spoil(all.Items)
		popped, last, _ := w.Pop()
		sample.Spoil(last.Items)
		sample.Spoil(popped.Items())
		check(t, v, nested(n))
		check(t, popped, nested(n))
		check(t, w, append(nested(n), list(num(7), list(num(8)))))
	}
}

// R3: no two answers share memory.
func TestAnswersShareNothing(t *testing.T) {
	v := of(t, nested(40))
	a, b := v.Items(), v.Items()
	one, _ := v.Nth(3)
	whole, _ := v.Value()
	sample.Spoil(a)
	if !sample.SameAll(b, nested(40)) || !sample.Same(one, nested(4)[3]) || !sample.Same(whole, list(nested(40)...)) {
		t.Errorf("answers share memory")
	}
	shared := list(num(1))
	l := of(t, []api.Value{shared, shared}).Items()
	sample.Spoil(l[0].Items)
	if !sample.Same(l[1], list(num(1))) {
		t.Errorf("items of one answer share memory")
	}
}

// R3
func TestTextsAreNew(t *testing.T) {
	long := strings.Repeat("a", api.MaxText)
	seen := []*byte{unsafe.StringData(long)}
	look := func(x api.Value) {
		t.Helper()
		at := unsafe.StringData(x.Text)
		if x.Text != long || slices.Contains(seen, at) {
			t.Errorf("the text is not new memory: %q", x.Text)
		}
		seen = append(seen, at)
	}
	v := of(t, []api.Value{str(long)})
	for _, w := range []*rrb.Vec{v, must(t)(rrb.New().Push(str(long))), must(t)(v.Set(0, str(long)))} {
		for range 2 {
			x, _ := w.Nth(0)
			look(x)
			look(w.Items()[0])
			for _, x := range w.From(0) {
				look(x)
			}
			all, _ := w.Value()
			look(all.Items[0])
			_, x, _ = w.Pop()
			look(x)
		}
	}
}

// R2: items without an element, nil and empty.
func TestNilAndEmptyItems(t *testing.T) {
	l := []api.Value{{Kind: api.VList}, {Kind: api.VList, Items: []api.Value{}}, {Kind: api.VSet, Items: []api.Value{}}, {Kind: api.VMap}, {Items: []api.Value{}}}
	check(t, of(t, l), l)
}
