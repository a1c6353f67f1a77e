package split_test

import (
	"math"
	"testing"

	"spinney/api"
	"spinney/finger"
	"spinney/model"
	"spinney/sample"
	"spinney/split"
)

// checkWeight asks for the place that is found with a w, and for both parts that it makes.
func checkWeight(t *testing.T, d *finger.Deque, w int64, plain []api.Value) {
	t.Helper()
	want, there := model.Above(plain, w)
	at, ok, e := split.Find(d, w)
	if e != api.OK || ok != there || there && at != want || !there && at != 0 {
		t.Fatalf("Find(%s, %d): %d, %v, %v, want %d, %v", short(plain), w, at, ok, e, want, there)
	}
	ahead, behind, e := split.Heavy(d, w)
	if e != api.OK {
		t.Fatalf("Heavy(%s, %d): %v", short(plain), w, e)
	}
	check(t, ahead, plain[:want])
	check(t, behind, plain[want:])
}

// weighed are items of all weights, numbers that weigh what they say, and others that weigh 1.
func weighed(s *sample.Source, n int) []api.Value {
	var out []api.Value
	for range n {
		switch s.Below(6) {
		case 0, 1:
			out = append(out, num(0))
		case 2, 3:
			out = append(out, num(int64(s.Below(6))))
		case 4:
			out = append(out, s.Value(1))
		case 5:
			out = append(out, num(int64(s.Below(2*api.MaxLen)-api.MaxLen/2)))
		}
	}
	return out
}

// 18.3: of a VInt its Num, if that is from 0 to MaxLen; of all others 1.
func TestWeightOfOne(t *testing.T) {
	for _, c := range []struct {
		x    api.Value
		want int64
	}{
		{num(0), 0}, {num(1), 1}, {num(2), 2}, {num(1000), 1000}, {num(api.MaxLen - 1), api.MaxLen - 1}, {num(api.MaxLen), api.MaxLen},
		{num(api.MaxLen + 1), 1}, {num(-1), 1}, {num(-5), 1}, {num(-api.MaxLen), 1}, {num(math.MaxInt64), 1}, {num(math.MinInt64), 1}, {num(1 << 32), 1},
		{none(), 1}, {sample.Bool(0), 1}, {sample.Bool(1), 1}, {str(""), 1}, {str("abc"), 1}, {list(), 1}, {list(num(5), num(6)), 1}, {sample.Set(num(0), num(7)), 1}, {sample.Map(num(0), num(0)), 1},
	} {
		d := of(t, []api.Value{c.x})
		for _, w := range []*finger.Deque{d, must(t)(finger.New().Front(c.x)), must(t)(finger.New().Back(c.x)), must(t)(of(t, ints(77)).Set(0, c.x)), must(t)(split.Insert(nil, 0, c.x)), split.Reverse(d)} {
			if got := split.Weight(w); got != c.want {
				t.Errorf("Weight of %v: %d, want %d", c.x, got, c.want)
			}
		}
		for w := range c.want {
			if w < 3 || w > c.want-3 {
				checkWeight(t, d, w, []api.Value{c.x})
			}
		}
		for _, w := range []int64{c.want, c.want + 1, 1 << 40, math.MaxInt64} {
			if at, there, e := split.Find(d, w); at != 0 || there || e != api.OK {
				t.Errorf("Find of %v with %d: %d, %v, %v", c.x, w, at, there, e)
			}
			checkWeight(t, d, w, []api.Value{c.x})
		}
	}
}

// 18.3
func TestWeight(t *testing.T) {
	for _, d := range []*finger.Deque{nil, {}, finger.New()} {
		if w := split.Weight(d); w != 0 {
			t.Errorf("Weight of none: %d", w)
		}
	}
	if w := split.Weight(of(t, ints(2, 0, 3))); w != 5 {
		t.Errorf("Weight: %d", w)
	}
	l := []api.Value{num(2), str("x"), num(-3), num(api.MaxLen), num(api.MaxLen + 1), none()}
	if w := split.Weight(of(t, l)); w != 2+1+1+api.MaxLen+1+1 {
		t.Errorf("Weight: %d", w)
	}
	// The heaviest one: MaxLen items, each of the greatest weight.
	full := of(t, ints(api.MaxLen))
	for full.Len() < api.MaxLen {
		full = must(t)(split.Concat(full, full))
	}
	if w := split.Weight(full); w != 1<<32 {
		t.Errorf("Weight: %d", w)
	}
	for _, c := range []struct {
		w     int64
		at    int
		there bool
	}{
		{0, 0, true}, {api.MaxLen - 1, 0, true}, {api.MaxLen, 1, true}, {1<<31 - 1, 32767, true}, {1 << 31, 32768, true}, {1<<32 - 1, api.MaxLen - 1, true}, {1 << 32, 0, false}, {1<<32 + 1, 0, false}, {math.MaxInt64, 0, false},
	} {
		if at, there, e := split.Find(full, c.w); at != c.at || there != c.there || e != api.OK {
			t.Errorf("Find(%d): %d, %v, %v", c.w, at, there, e)
		}
	}
}

// 18.3, by hand: just at the weight of some items, below it, and at the whole weight; light ones stand ahead of what is found.
func TestFind(t *testing.T) {
	for _, c := range []struct {
		l     []api.Value
		w     int64
		at    int
		there bool
	}{
		{ints(2, 0, 3), 0, 0, true}, {ints(2, 0, 3), 1, 0, true}, {ints(2, 0, 3), 2, 2, true}, {ints(2, 0, 3), 3, 2, true}, {ints(2, 0, 3), 4, 2, true}, {ints(2, 0, 3), 5, 0, false}, {ints(2, 0, 3), 6, 0, false},
		{ints(0, 0, 0), 0, 0, false}, {ints(0, 0, 1), 0, 2, true}, {ints(0, 0, 1), 1, 0, false}, {ints(0, 0, 1, 0, 0), 0, 2, true}, {ints(0, 0, 1, 0, 0), 1, 0, false},
		{ints(0), 0, 0, false}, {ints(1), 0, 0, true}, {ints(-9), 0, 0, true}, {ints(-9), 1, 0, false}, {ints(-1, -1, -1), 1, 1, true}, {ints(-1, -1, -1), 2, 2, true},
		{nil, 0, 0, false}, {nil, math.MaxInt64, 0, false}, {[]api.Value{str("aaa"), list(num(5)), num(2)}, 1, 1, true}, {[]api.Value{str("aaa"), list(num(5)), num(2)}, 2, 2, true}, {[]api.Value{str("aaa"), list(num(5)), num(2)}, 4, 0, false},
	} {
		if at, there, e := split.Find(of(t, c.l), c.w); at != c.at || there != c.there || e != api.OK {
			t.Errorf("Find(%v, %d): %d, %v, %v", c.l, c.w, at, there, e)
		}
		checkWeight(t, of(t, c.l), c.w, c.l)
	}
}

// 18.3: of deques of many shapes, with every w that is just at the weight of some items, and those next to it.
func TestFindEverywhere(t *testing.T) {
	s := sample.New(5)
	for _, n := range []int{0, 1, 2, 3, 8, 9, 10, 33, 120, 300} {
		for range 4 {
			plain := weighed(s, n)
			d := of(t, plain)
			if s.Below(2) == 0 {
				d = pieced(t, s, plain)
			}
			var sum int64
			for i := range n + 1 {
				for _, w := range []int64{sum - 1, sum, sum + 1} {
					if w >= 0 {
						checkWeight(t, d, w, plain)
					}
				}
				if i < n {
					sum += model.Weight(plain[i : i+1])
				}
			}
			checkWeight(t, d, sum+1000, plain)
			checkWeight(t, d, 1<<40, plain)
			checkWeight(t, d, math.MaxInt64, plain)
		}
	}
}

// 18.3: a w below 0, and R4 beside it; R1: it comes ahead of all that the deque may say.
func TestWeightsBelowNone(t *testing.T) {
	for _, d := range []*finger.Deque{nil, {}, finger.New(), of(t, ints(0)), of(t, ints(2, 0, 3)), of(t, numbered(0, 100))} {
		for _, w := range []int64{-1, -2, -api.MaxLen, math.MinInt64} {
			if at, there, e := split.Find(d, w); at != 0 || there || e != api.ErrArg {
				t.Errorf("Find(%d): %d, %v, %v", w, at, there, e)
			}
			if a, b, e := split.Heavy(d, w); a != nil || b != nil || e != api.ErrArg {
				t.Errorf("Heavy(%d): %v, %v, %v", w, a, b, e)
			}
		}
	}
}

// 18.3, R6: all and none, if there is no such place, none of them nil.
func TestHeavyOfNone(t *testing.T) {
	for _, d := range []*finger.Deque{nil, {}, finger.New()} {
		for _, w := range []int64{0, 1, math.MaxInt64} {
			checkWeight(t, d, w, nil)
		}
	}
	d := of(t, ints(0, 0, 0))
	ahead, behind, e := split.Heavy(d, 0)
	if e != api.OK {
		t.Fatalf("Heavy: %v", e)
	}
	check(t, ahead, ints(0, 0, 0))
	check(t, behind)
}

// 18.3: what an item weighs is kept up to date where another one is set in its place.
func TestWeightOfSet(t *testing.T) {
	s := sample.New(6)
	plain := weighed(s, 200)
	d := of(t, plain)
	for i := range plain {
		plain[i] = weighed(s, 1)[0]
		d = must(t)(d.Set(i, plain[i]))
		check(t, d, plain)
		checkWeight(t, d, model.Weight(plain[:i]), plain)
	}
}
