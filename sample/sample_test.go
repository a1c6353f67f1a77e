package sample_test

import (
	"reflect"
	"slices"
	"testing"

	"spinney/api"
	"spinney/order"
	"spinney/sample"
	"spinney/value"
)

func TestValuesAreRightAndTheSameAgain(t *testing.T) {
	a, b := sample.New(7), sample.New(7)
	var kinds [api.VMap + 1]int
	for range 2000 {
		v := a.Value(3)
		if value.Check(v) != api.OK || !reflect.DeepEqual(v, b.Value(3)) {
			t.Fatalf("%v", v)
		}
		kinds[v.Kind]++
	}
	for kind, n := range kinds {
		if n == 0 {
			t.Errorf("no value of kind %d", kind)
		}
	}
}

func TestWrongsAreWrong(t *testing.T) {
	for _, v := range sample.Wrongs() {
		if value.Check(v) != api.ErrValue {
			t.Errorf("right: %v", v)
		}
	}
}

func TestBeyond(t *testing.T) {
	for _, last := range []int{0, 5, 63} {
		l := sample.Beyond(last)
		if !slices.Contains(l, -1) || !slices.Contains(l, last+1) {
			t.Errorf("Beyond(%d): %v", last, l)
		}
		for _, n := range l {
			if n >= 0 && n <= last {
				t.Errorf("Beyond(%d): %d", last, n)
			}
		}
	}
}

func TestMadeByHand(t *testing.T) {
	for _, v := range []api.Value{
		sample.Num(-1), sample.Bool(1), sample.Str("a"), sample.List(), sample.Set(sample.Numbers(3)...), sample.Map(sample.Num(1), sample.Str("a")), sample.Nested(api.MaxDeep, sample.Num(1)),
	} {
		if value.Check(v) != api.OK {
			t.Errorf("not right: %v", v)
		}
	}
}

func TestSame(t *testing.T) {
	line := []api.Value{
		{}, {Num: 1}, {Text: "a"}, sample.Num(0), sample.Num(1), sample.Str("a"), sample.Str("b"),
		sample.List(), sample.Set(), sample.List(api.Value{}), sample.List(sample.Num(0)), sample.List(sample.Num(0), sample.Num(0)), sample.List(sample.List()),
	}
	for i, a := range line {
		for k, b := range line {
			if sample.Same(a, b) != (i == k) {
				t.Errorf("Same(%v, %v)", a, b)
			}
		}
	}
	if !sample.Same(sample.List(), api.Value{Kind: api.VList, Items: []api.Value{}}) {
		t.Errorf("a list that is nil, and one that is empty")
	}
}

func TestMemory(t *testing.T) {
	fresh := func() api.Value { return sample.List(sample.Num(1), sample.Set(sample.Num(2))) }
	v := fresh()
	roomy := sample.Roomy(v)
	if !sample.Same(roomy, v) || !sample.RoomKept(roomy.Items) {
		t.Fatalf("Roomy(%v): %v", v, roomy)
	}
	for _, l := range [][]api.Value{roomy.Items, roomy.Items[1].Items} {
		end := &l[:cap(l)][cap(l)-1]
		was := *end
		*end = sample.Num(0)
		if sample.RoomKept(roomy.Items) {
			t.Errorf("room that was written to is not seen")
		}
		*end = was
	}
	inner := roomy.Items[1].Items
	sample.Spoil(roomy.Items)
	if sample.Same(roomy, v) || inner[0].Kind == api.VInt || !sample.Same(v, fresh()) {
		t.Errorf("Spoil: %v, %v, %v", roomy, inner, v)
	}
}

func TestPairsMemory(t *testing.T) {
	fresh := func() []api.Pair {
		return []api.Pair{{Key: sample.List(sample.Num(1)), Val: sample.Set(sample.Num(2))}}
	}
	l := fresh()
	roomy := sample.RoomyPairs(l)
	if !sample.SamePairs(roomy, l) || !sample.PairRoomKept(roomy) || sample.RoomyPairs(nil) != nil {
		t.Fatalf("RoomyPairs(%v): %v", l, roomy)
	}
	key, val := roomy[0].Key.Items, roomy[0].Val.Items
	for _, end := range []*api.Value{&roomy[:cap(roomy)][cap(roomy)-1].Key, &roomy[:cap(roomy)][len(roomy)].Val, &key[:cap(key)][len(key)], &val[:cap(val)][len(val)]} {
		was := *end
		*end = sample.Num(0)
		if sample.PairRoomKept(roomy) {
			t.Errorf("room that was written to is not seen")
		}
		*end = was
	}
	sample.SpoilPairs(roomy)
	if sample.SamePairs(roomy, l) || key[0].Kind == api.VInt || val[0].Kind == api.VInt || !sample.SamePairs(l, fresh()) {
		t.Errorf("SpoilPairs: %v, %v, %v", roomy, key, val)
	}
	for _, other := range [][]api.Pair{nil, {{Key: l[0].Key}}, {{Val: l[0].Val}}, {l[0], l[0]}} {
		if sample.SamePairs(l, other) || sample.SamePairs(other, l) {
			t.Errorf("SamePairs(%v, %v)", l, other)
		}
	}
}

func TestKeysAreRightAndUnlike(t *testing.T) {
	l := sample.New(1).Keys(300)
	for i, a := range l {
		if value.Check(a) != api.OK || slices.ContainsFunc(l[:i], func(b api.Value) bool { return sample.Same(a, b) }) {
			t.Errorf("%v", a)
		}
	}
}

func TestShuffled(t *testing.T) {
	l := sample.Numbers(50)
	other := sample.Shuffled(sample.New(1), l)
	back := slices.SortedFunc(slices.Values(other), value.Compare)
	if sample.SameAll(other, l) || !sample.SameAll(back, l) || !sample.SameAll(l, sample.Numbers(50)) {
		t.Errorf("%v", other)
	}
}

// The full hashes of 0, 1, 2 are 0, 1392991556 (its lowest five bits are 4, the next 10), 3323962100 (20, then 23); kind 4 keeps four bits, kind 32 none.
func TestTries(t *testing.T) {
	for _, c := range []struct {
		kind  int
		order []int64
		shape []api.Shape
	}{
		{0, nil, []api.Shape{{}}},
		{0, []int64{0, 1, 2}, []api.Shape{{Data: 1<<0 | 1<<4 | 1<<20, Members: 3}}},
		{4, []int64{0, 1, 2}, []api.Shape{{Data: 1, Nodes: 1 << 4, Members: 1}, {Depth: 1, Nodes: 1}, {Depth: 2, Nodes: 1}, {Depth: 3, Nodes: 1}, {Depth: 4, Nodes: 1}, {Depth: 5, Nodes: 1}, {Depth: 6, Nodes: 1}, {Depth: 7, Members: 2}}},
		{32, []int64{1, 2}, []api.Shape{{Nodes: 1}, {Depth: 1, Nodes: 1}, {Depth: 2, Nodes: 1}, {Depth: 3, Nodes: 1}, {Depth: 4, Nodes: 1}, {Depth: 5, Nodes: 1}, {Depth: 6, Nodes: 1}, {Depth: 7, Members: 2}}},
	} {
		var want []api.Value
		for _, n := range c.order {
			want = append(want, sample.Num(n))
		}
		turned := slices.Clone(want)
		slices.Reverse(turned)
		if got := sample.InTrieOrder(c.kind, turned); !sample.SameAll(got, want) {
			t.Errorf("kind %d: %v, want %v", c.kind, got, want)
		}
		if got := sample.Shape(c.kind, turned); !slices.Equal(got, c.shape) {
			t.Errorf("kind %d: %v, want %v", c.kind, got, c.shape)
		}
	}
}

// Chapter 6: each line rises by its order, and there is one for each.
func TestLines(t *testing.T) {
	lines := sample.Lines()
	if len(lines) != api.MaxOrder+1 {
		t.Fatalf("%d lines", len(lines))
	}
	for by, line := range lines {
		for i := 1; i < len(line); i++ {
			if c, e := order.Compare(by, line[i-1], line[i]); c >= 0 || e != api.OK {
				t.Errorf("order %d: %v, %v: %d, %v", by, line[i-1], line[i], c, e)
			}
		}
	}
}

func TestApart(t *testing.T) {
	fresh := func() []api.Value {
		return sample.RoomyAll([]api.Value{sample.List(sample.Num(1), sample.Set(sample.Num(2))), sample.Str("a")})
	}
	a, b := fresh(), fresh()
	if !sample.Apart() || !sample.Apart(nil, []api.Value{}) || !sample.Apart(a, nil, b) {
		t.Errorf("lists that share nothing")
	}
	inner := a[0].Items
	for i, l := range [][]api.Value{a, inner, a[:0], a[1:], inner[1].Items, inner[:0], inner[2:], {sample.List(inner[1].Items...)}, {sample.Num(1), a[0]}} {
		if sample.Apart(a, b, l) || sample.Apart(l, b, a) {
			t.Errorf("%d: a list that shares memory", i)
		}
	}
	if sample.Apart([]api.Value{a[0], a[0]}) {
		t.Errorf("two lists within one")
	}
}
