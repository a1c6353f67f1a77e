package sample_test

import (
	"reflect"
	"testing"

	"spinney/api"
	"spinney/sample"
	"spinney/value"
)

func TestValuesAreRightAndTheSameAgain(t *testing.T) {
	a, b := sample.New(7), sample.New(7)
	var kinds [api.VMap + 1]int
	for range 2000 {
		v := a.Value(3)
		if value.Check(v) != api.OK || !reflect.DeepEqual(v, b.Value(3)) {
			t.Fatalf("%v", v)
		}
		kinds[v.Kind]++
	}
	for kind, n := range kinds {
		if n == 0 {
			t.Errorf("no value of kind %d", kind)
		}
	}
}

func TestWrongsAreWrong(t *testing.T) {
	for _, v := range sample.Wrongs() {
		if value.Check(v) != api.ErrValue {
			t.Errorf("right: %v", v)
		}
	}
}

func TestMadeByHand(t *testing.T) {
	for _, v := range []api.Value{
		sample.Num(-1), sample.Bool(1), sample.Str("a"), sample.List(), sample.Set(sample.Numbers(3)...), sample.Map(sample.Num(1), sample.Str("a")), sample.Nested(api.MaxDeep, sample.Num(1)),
	} {
		if value.Check(v) != api.OK {
			t.Errorf("not right: %v", v)
		}
	}
}
