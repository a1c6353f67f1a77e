package finger_test

import (
	"iter"
	"slices"
	"strings"
	"testing"
	"unsafe"

	"spinney/api"
	"spinney/finger"
	"spinney/model"
	"spinney/sample"
)

// gone are the items that an iterator goes over; it is left behind so many, unless that is 0.
func gone(seq iter.Seq[api.Value], most int) []api.Value {
	var out []api.Value
	for x := range seq {
		out = append(out, x)
		if len(out) == most {
			break
		}
	}
	return out
}

// 17.3: gone over, left early behind any item, and gone over again.
func TestAll(t *testing.T) {
	for _, n := range []int{0, 1, 2, 8, 9, 10, 33, 100, 1000, api.MaxLen} {
		plain := sample.Numbers(n)
		seq := of(t, plain).All()
		for _, most := range []int{1, 0, 2, 3, 4, 5, 9, 33, 0, n / 2, n - 1, n, n + 1} {
			want := plain
			if most > 0 {
				want = plain[:min(most, n)]
			}
			if items := gone(seq, max(most, 0)); most >= 0 && !sample.SameAll(items, want) {
				t.Fatalf("of %d, %d of them: %s", n, most, short(items))
			}
		}
	}
	plain := sample.Numbers(200)
	seq := of(t, plain).All()
	for most := 1; most <= 200; most++ {
		if items := gone(seq, most); !sample.SameAll(items, plain[:most]) {
			t.Fatalf("%d of them: %s", most, short(items))
		}
	}
}

// 17.3: one iterator within itself, and one that was made ahead of changes.
func TestAllTwiceAtOnce(t *testing.T) {
	d := of(t, sample.Numbers(40))
	seq := d.All()
	must(t)(d.Set(35, none()))
	must(t)(d.Front(none()))
	must(t)(d.Back(none()))
	d.PopFront()
	d.PopBack()
	n := int64(0)
	for x := range seq {
		k := int64(0)
		for y := range seq {
			if y.Num != k || x.Num != n {
				t.Fatalf("%v, %v", x, y)
			}
			k++
		}
		if k != 40 {
			t.Fatalf("%d items", k)
		}
		n++
	}
	if n != 40 {
		t.Errorf("%d items", n)
	}
}

// 17.3: value.List's error.
func TestValue(t *testing.T) {
	for _, c := range []struct {
		l    []api.Value
		want api.Errno
	}{
		{nil, api.OK}, {sample.Numbers(1), api.OK}, {sample.Numbers(api.MaxParts - 1), api.OK}, {sample.Numbers(api.MaxParts), api.ErrLong}, {sample.Numbers(api.MaxLen), api.ErrLong},
		{[]api.Value{sample.Nested(api.MaxDeep-1, num(1))}, api.OK}, {[]api.Value{sample.Nested(api.MaxDeep, num(1))}, api.ErrLong},
		{[]api.Value{list(sample.Numbers(511)...), list(sample.Numbers(510)...)}, api.OK}, {[]api.Value{list(sample.Numbers(511)...), list(sample.Numbers(511)...)}, api.ErrLong},
	} {
		want := list(c.l...)
		if c.want != api.OK {
			want = none()
		}
		if v, e := of(t, c.l).Value(); e != c.want || !sample.Same(v, want) {
			t.Errorf("Value of %s: %s, %v", short(c.l), short(v), e)
		}
	}
}

// 17.3: of few items by hand: at most log2(n) and 2, and none of an empty one.
func TestHeight(t *testing.T) {
	for n, most := range []int{0, 2, 3, 3, 4, 4, 4, 4, 5} {
		ahead, behind := finger.New(), finger.New()
		for _, x := range sample.Numbers(n) {
			ahead, behind = must(t)(ahead.Front(x)), must(t)(behind.Back(x))
		}
		for _, d := range []*finger.Deque{of(t, sample.Numbers(n)), ahead, behind} {
			if h := d.Height(); h > most || (h == 0) != (n == 0) {
				t.Errorf("%d items, %d levels", n, h)
			}
		}
	}
}

// R6: nil is an empty deque, and so is a zero one; what is made of them is none that is nil.
func TestNil(t *testing.T) {
	for _, d := range []*finger.Deque{nil, {}} {
		if wrong := model.WrongOfDeque(d, nil); wrong != "" {
			t.Errorf("%s", wrong)
		}
		for range d.All() {
			t.Errorf("All goes over something")
		}
		refused(t, api.ErrRange)(d.Set(0, num(1)))
		check(t, must(t)(d.Front(num(1))), []api.Value{num(1)})
		check(t, must(t)(d.Back(num(1))), []api.Value{num(1)})
	}
}

// nested are items that hold lists, in memory of their own.
func nested(n int) []api.Value {
	var out []api.Value
	for i := range int64(n) {
		out = append(out, list(num(i), sample.Map(num(i), list(num(1), str("x")))))
	}
	return out
}

// R3: what is handed in stays as it is, and is not kept.
func TestArgumentsStay(t *testing.T) {
	for _, n := range []int{1, 2, 8, 9, 33, 1025} {
		l := sample.RoomyAll(nested(n))
		d := of(t, l)
		if !sample.SameAll(l, nested(n)) || !sample.RoomKept(l) {
			t.Errorf("Of changed what it was given")
		}
		sample.Spoil(l)
		check(t, d, nested(n))
		plain := list(num(1), list(num(2)))
		x := sample.Roomy(plain)
		set, ahead, behind := must(t)(d.Set(n-1, x)), must(t)(d.Front(x)), must(t)(d.Back(x))
		if !sample.RoomKept(x.Items) || !sample.Same(x, plain) {
			t.Errorf("Set, Front or Back changed what it was given")
		}
		sample.Spoil(x.Items)
		check(t, set, replaced(nested(n), n-1, plain))
		check(t, ahead, []api.Value{plain}, nested(n))
		check(t, behind, nested(n), []api.Value{plain})
	}
}

// R3: writing over answers changes nothing that a deque tells.
func TestAnswersAreNew(t *testing.T) {
	for _, n := range []int{1, 2, 8, 9, 33, 500} {
		d := of(t, nested(n))
		more := []api.Value{list(num(7), list(num(8)))}
		ahead, behind := must(t)(d.Front(more[0])), must(t)(d.Back(more[0]))
		sample.Spoil(d.Items())
		for i := range n {
			x, _ := d.At(i)
			sample.Spoil(x.Items)
		}
		for x := range d.All() {
			sample.Spoil(x.Items)
		}
		all, e := of(t, nested(20)).Value()
		if e != api.OK {
			t.Fatalf("Value: %v", e)
		}
		sample.Spoil(all.Items)
		p, x, _ := ahead.PopFront()
		q, y, _ := behind.PopBack()
		for _, l := range [][]api.Value{x.Items, y.Items, p.Items(), q.Items()} {
			sample.Spoil(l)
		}
		check(t, d, nested(n))
		check(t, p, nested(n))
		check(t, q, nested(n))
		check(t, ahead, more, nested(n))
		check(t, behind, nested(n), more)
	}
}

// R3: no two answers share memory, and no two lists of one answer.
func TestAnswersShareNothing(t *testing.T) {
	d := of(t, nested(40))
	a, b := d.Items(), d.Items()
	one, _ := d.At(3)
	_, first, _ := d.PopFront()
	whole, _ := d.Value()
	sample.Spoil(a)
	if !sample.SameAll(b, nested(40)) || !sample.Same(one, nested(4)[3]) || !sample.Same(first, nested(1)[0]) || !sample.Same(whole, list(nested(40)...)) {
		t.Errorf("answers share memory")
	}
	shared := list(num(1))
	l := of(t, []api.Value{shared, shared}).Items()
	sample.Spoil(l[0].Items)
	if !sample.Same(l[1], list(num(1))) {
		t.Errorf("items of one answer share memory")
	}
}

// R3
func TestTextsAreNew(t *testing.T) {
	long := strings.Repeat("a", api.MaxText)
	seen := []*byte{unsafe.StringData(long)}
	look := func(x api.Value) {
		t.Helper()
		at := unsafe.StringData(x.Text)
		if x.Text != long || slices.Contains(seen, at) {
			t.Errorf("the text is not new memory: %q", x.Text)
		}
		seen = append(seen, at)
	}
	d := of(t, []api.Value{str(long)})
	for _, w := range []*finger.Deque{d, must(t)(finger.New().Front(str(long))), must(t)(finger.New().Back(str(long))), must(t)(d.Set(0, str(long)))} {
		for range 2 {
			x, _ := w.At(0)
			look(x)
			look(w.Items()[0])
			for x := range w.All() {
				look(x)
			}
			all, _ := w.Value()
			look(all.Items[0])
			_, x, _ = w.PopFront()
			look(x)
			_, x, _ = w.PopBack()
			look(x)
		}
	}
}

// R2: items without an element, nil and empty.
func TestNilAndEmptyItems(t *testing.T) {
	l := []api.Value{{Kind: api.VList}, {Kind: api.VList, Items: []api.Value{}}, {Kind: api.VSet, Items: []api.Value{}}, {Kind: api.VMap}, {Items: []api.Value{}}}
	check(t, of(t, l), l)
}
