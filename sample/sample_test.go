package sample_test

import (
	"reflect"
	"testing"

	"spinney/api"
	"spinney/sample"
	"spinney/value"
)

func TestValuesAreRightAndTheSameAgain(t *testing.T) {
	a, b := sample.New(7), sample.New(7)
	var kinds [api.VMap + 1]int
	for range 2000 {
		v := a.Value(3)
		if value.Check(v) != api.OK || !reflect.DeepEqual(v, b.Value(3)) {
			t.Fatalf("%v", v)
		}
		kinds[v.Kind]++
	}
	for kind, n := range kinds {
		if n == 0 {
			t.Errorf("no value of kind %d", kind)
		}
	}
}

func TestWrongsAreWrong(t *testing.T) {
	for _, v := range sample.Wrongs() {
		if value.Check(v) != api.ErrValue {
			t.Errorf("right: %v", v)
		}
	}
}

func TestMadeByHand(t *testing.T) {
	for _, v := range []api.Value{
		sample.Num(-1), sample.Bool(1), sample.Str("a"), sample.List(), sample.Set(sample.Numbers(3)...), sample.Map(sample.Num(1), sample.Str("a")), sample.Nested(api.MaxDeep, sample.Num(1)),
	} {
		if value.Check(v) != api.OK {
			t.Errorf("not right: %v", v)
		}
	}
}

func TestSame(t *testing.T) {
	line := []api.Value{
		{}, {Num: 1}, {Text: "a"}, sample.Num(0), sample.Num(1), sample.Str("a"), sample.Str("b"),
		sample.List(), sample.Set(), sample.List(api.Value{}), sample.List(sample.Num(0)), sample.List(sample.Num(0), sample.Num(0)), sample.List(sample.List()),
	}
	for i, a := range line {
		for k, b := range line {
			if sample.Same(a, b) != (i == k) {
				t.Errorf("Same(%v, %v)", a, b)
			}
		}
	}
	if !sample.Same(sample.List(), api.Value{Kind: api.VList, Items: []api.Value{}}) {
		t.Errorf("a list that is nil, and one that is empty")
	}
}

func TestMemory(t *testing.T) {
	fresh := func() api.Value { return sample.List(sample.Num(1), sample.Set(sample.Num(2))) }
	v := fresh()
	roomy := sample.Roomy(v)
	if !sample.Same(roomy, v) || !sample.RoomKept(roomy.Items) {
		t.Fatalf("Roomy(%v): %v", v, roomy)
	}
	for _, l := range [][]api.Value{roomy.Items, roomy.Items[1].Items} {
		end := &l[:cap(l)][cap(l)-1]
		was := *end
		*end = sample.Num(0)
		if sample.RoomKept(roomy.Items) {
			t.Errorf("room that was written to is not seen")
		}
		*end = was
	}
	inner := roomy.Items[1].Items
	sample.Spoil(roomy.Items)
	if sample.Same(roomy, v) || inner[0].Kind == api.VInt || !sample.Same(v, fresh()) {
		t.Errorf("Spoil: %v, %v, %v", roomy, inner, v)
	}
}
