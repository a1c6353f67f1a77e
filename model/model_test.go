package model_test

import (
	"testing"

	"spinney/api"
	"spinney/bimap"
	"spinney/champ"
	"spinney/finger"
	"spinney/hset"
	"spinney/model"
	"spinney/multi"
	"spinney/pairing"
	"spinney/redblack"
	"spinney/rrb"
	"spinney/sample"
	"spinney/sset"
)

func pair(k, v int64) api.Pair { return api.Pair{Key: sample.Num(k), Val: sample.Num(v)} }

func TestPairs(t *testing.T) {
	l := []api.Pair{pair(1, 10), pair(2, 20), pair(3, 30)}
	for _, c := range []struct{ got, want []api.Pair }{
		{model.Put(l, sample.Num(4), sample.Num(40)), []api.Pair{l[0], l[1], l[2], pair(4, 40)}},
		{model.Put(l, sample.Num(1), sample.Num(11)), []api.Pair{l[1], l[2], pair(1, 11)}},
		{model.Put(nil, sample.Num(1), sample.Num(10)), l[:1]},
		{model.PutAll(l, []api.Pair{pair(4, 40), pair(1, 11), pair(4, 41)}), []api.Pair{l[1], l[2], pair(1, 11), pair(4, 41)}},
		{model.PutAll(nil, l), l},
		{model.Drop(l, sample.Num(2)), []api.Pair{l[0], l[2]}},
		{model.Drop(l, sample.Num(4)), l},
		{model.Drop(nil, sample.Num(4)), nil},
		// Under kind 39 the hash of 2 comes ahead of that of 1.
		{model.InTrieOrder(39, l[:2]), []api.Pair{l[1], l[0]}},
		{model.InTrieOrder(32, []api.Pair{l[2], l[0], l[1]}), l},
		{model.InOrder(0, []api.Pair{l[2], l[0], l[1]}), l},
		{model.InOrder(1, l), []api.Pair{l[2], l[1], l[0]}},
	} {
		if !sample.SamePairs(c.got, c.want) {
			t.Errorf("%v, want %v", c.got, c.want)
		}
	}
	if keys := model.Keys(l); model.Find(l, sample.Num(3)) != 2 || model.Find(l, sample.Num(30)) != -1 || len(keys) != 3 || keys[2].Num != 3 {
		t.Errorf("Find, Keys of %v: %v", l, keys)
	}
	if !sample.SamePairs(l, []api.Pair{pair(1, 10), pair(2, 20), pair(3, 30)}) {
		t.Errorf("changed: %v", l)
	}
}

func TestWrongOfMap(t *testing.T) {
	l := []api.Pair{pair(1, 10), pair(2, 20)}
	m, _ := champ.Of(5, l)
	for _, c := range []struct {
		kind  int
		plain []api.Pair
		want  string
	}{
		{5, l, ""}, {5, []api.Pair{l[1], l[0]}, ""}, {0, l, "Kind"}, {5, l[:1], "Len"}, {5, []api.Pair{l[0], pair(2, 21)}, "Pairs"}, {5, []api.Pair{l[0], pair(3, 20)}, "Pairs"},
	} {
		if wrong := model.WrongOfMap(m, c.kind, c.plain); wrong != c.want {
			t.Errorf("kind %d, %v: %q, want %q", c.kind, c.plain, wrong, c.want)
		}
	}
}

func TestWrongOfSet(t *testing.T) {
	l := sample.Numbers(3)
	s, _ := hset.Of(5, l)
	for _, c := range []struct {
		kind  int
		plain []api.Value
		want  string
	}{
		{5, l, ""}, {5, []api.Value{l[2], l[0], l[1]}, ""}, {0, l, "Kind"}, {5, l[:2], "Len"}, {5, []api.Value{l[0], l[1], sample.Num(3)}, "Items"},
	} {
		if wrong := model.WrongOfSet(s, c.kind, c.plain); wrong != c.want {
			t.Errorf("kind %d, %v: %q, want %q", c.kind, c.plain, wrong, c.want)
		}
	}
}

func TestMade(t *testing.T) {
	if l := model.Ints(1, 10, 2, 20); !sample.SamePairs(l, []api.Pair{pair(1, 10), pair(2, 20)}) || len(model.Ints()) != 0 {
		t.Errorf("Ints: %v", l)
	}
	if l := model.Numbered(-1, 3, sample.Num(5)); !sample.SamePairs(l, []api.Pair{pair(-1, 5), pair(0, 5), pair(1, 5)}) {
		t.Errorf("Numbered: %v", l)
	}
	if l := model.Valued(sample.Numbers(3)); len(l) != 3 || l[2].Key.Num != 2 || l[2].Val.Items[0].Num != 2 || sample.Same(l[0].Val, l[1].Val) {
		t.Errorf("Valued: %v", l)
	}
	l := model.Nested()
	if _, e := champ.Of(0, l); e != api.OK {
		t.Errorf("Nested: %v", e)
	}
	sample.SpoilPairs(l)
	if _, e := champ.Of(0, model.Nested()); e != api.OK || sample.SamePairs(l, model.Nested()) {
		t.Errorf("Nested again: %v", e)
	}
}

func TestWrongOfVec(t *testing.T) {
	l := sample.Numbers(3)
	v, _ := rrb.Of(l)
	for _, c := range []struct {
		plain []api.Value
		want  string
	}{
		{l, ""}, {nil, "Len"}, {l[:2], "Len"}, {sample.Numbers(4), "Len"}, {[]api.Value{l[0], l[2], l[1]}, "Items"},
	} {
		if wrong := model.WrongOfVec(v, c.plain); wrong != c.want {
			t.Errorf("%v: %q, want %q", c.plain, wrong, c.want)
		}
	}
	if wrong := model.WrongOfVec(nil, nil); wrong != "" {
		t.Errorf("nil: %q", wrong)
	}
}

func TestHeightFits(t *testing.T) {
	for _, c := range []struct {
		n, least, most int
	}{
		{0, 0, 0}, {1, 1, 3}, {15, 1, 3}, {16, 1, 4}, {32, 1, 4}, {33, 2, 4}, {255, 2, 4}, {256, 2, 5}, {1024, 2, 5}, {1025, 3, 5}, {2000, 3, 5}, {4095, 3, 5}, {4096, 3, 6}, {32768, 3, 6}, {65535, 4, 6}, {65536, 4, 7},
	} {
		for h := -1; h < 20; h++ {
			if got, want := model.HeightFits(c.n, h), c.least <= h && h <= c.most; got != want {
				t.Errorf("%d items, %d levels: %v", c.n, h, got)
			}
		}
	}
}

func TestWrongOfSorted(t *testing.T) {
	l := []api.Pair{pair(1, 10), pair(2, 20)}
	m, _ := redblack.Of(1, l)
	for _, c := range []struct {
		by    int
		plain []api.Pair
		want  string
	}{
		{1, l, ""}, {1, []api.Pair{l[1], l[0]}, ""}, {0, l, "Order"}, {1, l[:1], "Len"}, {1, []api.Pair{l[0], pair(2, 21)}, "Pairs"}, {1, []api.Pair{l[0], pair(3, 20)}, "Pairs"},
	} {
		if wrong := model.WrongOfSorted(m, c.by, c.plain); wrong != c.want {
			t.Errorf("order %d, %v: %q, want %q", c.by, c.plain, wrong, c.want)
		}
	}
	if wrong := model.WrongOfSorted(nil, 0, nil); wrong != "" {
		t.Errorf("nil: %q", wrong)
	}
}

// The most levels are twice log2(n + 1), rounded down: of 2 keys 3.17, of 4 keys 4.64, of 1000 keys 19.93.
func TestFlatFits(t *testing.T) {
	for _, c := range []struct {
		n, least, most int
	}{
		{0, 0, 0}, {1, 1, 2}, {2, 2, 3}, {3, 2, 4}, {4, 3, 4}, {5, 3, 5}, {7, 3, 6}, {8, 4, 6}, {1000, 10, 19}, {1023, 10, 20}, {1024, 11, 20}, {65535, 16, 32}, {65536, 17, 32},
	} {
		for h := -1; h < 70; h++ {
			if got, want := model.FlatFits(c.n, h), c.least <= h && h <= c.most; got != want {
				t.Errorf("%d keys, %d levels: %v", c.n, h, got)
			}
		}
	}
}

func TestParted(t *testing.T) {
	l := model.Ints(5, 50, 1, 10, 3, 30)
	for _, c := range []struct {
		by                  int
		k                   int64
		ahead, same, behind []api.Pair
	}{
		{0, 3, model.Ints(1, 10), model.Ints(3, 30), model.Ints(5, 50)}, {0, 4, model.Ints(1, 10, 3, 30), nil, model.Ints(5, 50)}, {1, 4, model.Ints(5, 50), nil, model.Ints(3, 30, 1, 10)},
		{0, 0, nil, nil, model.Ints(1, 10, 3, 30, 5, 50)}, {0, 9, model.Ints(1, 10, 3, 30, 5, 50), nil, nil}, {1, 5, nil, model.Ints(5, 50), model.Ints(3, 30, 1, 10)},
	} {
		ahead, same, behind := model.Parted(c.by, l, sample.Num(c.k))
		if !sample.SamePairs(ahead, c.ahead) || !sample.SamePairs(same, c.same) || !sample.SamePairs(behind, c.behind) {
			t.Errorf("order %d, %d: %v, %v, %v", c.by, c.k, ahead, same, behind)
		}
	}
}

func TestBetween(t *testing.T) {
	l := model.Ints(5, 50, 1, 10, 3, 30)
	for _, c := range []struct {
		from, to         int64
		withFrom, withTo bool
		want             []api.Pair
	}{
		{1, 5, true, true, model.Ints(1, 10, 3, 30, 5, 50)}, {1, 5, true, false, model.Ints(1, 10, 3, 30)}, {1, 5, false, true, model.Ints(3, 30, 5, 50)}, {1, 5, false, false, model.Ints(3, 30)},
		{3, 3, true, true, model.Ints(3, 30)}, {3, 3, true, false, nil}, {3, 3, false, true, nil}, {3, 3, false, false, nil}, {5, 1, true, true, nil}, {2, 4, false, false, model.Ints(3, 30)},
	} {
		if got := model.Between(0, l, sample.Num(c.from), sample.Num(c.to), c.withFrom, c.withTo); !sample.SamePairs(got, c.want) {
			t.Errorf("%d, %d: %v, want %v", c.from, c.to, got, c.want)
		}
	}
}

func TestWrongOfRanges(t *testing.T) {
	l := model.Ints(1, 10, 2, 20, 4, 40)
	m, _ := redblack.Of(1, l)
	keys := sample.Numbers(6)
	for _, c := range []struct {
		by    int
		plain []api.Pair
		want  string
	}{
		{1, l, ""}, {1, []api.Pair{l[1], l[2], l[0]}, ""}, {0, l, "Back"}, {1, l[:2], "Back"}, {1, model.Ints(1, 10, 2, 21, 4, 40), "Back"},
	} {
		if wrong := model.WrongOfRanges(m, c.by, c.plain, keys); wrong != c.want {
			t.Errorf("order %d, %v: %q, want %q", c.by, c.plain, wrong, c.want)
		}
	}
	if wrong := model.WrongOfRanges(nil, 0, nil, keys); wrong != "" {
		t.Errorf("nil: %q", wrong)
	}
}

func TestWrongOfSortedSet(t *testing.T) {
	l := sample.Numbers(3)
	s, _ := sset.Of(1, l)
	for _, c := range []struct {
		by    int
		plain []api.Value
		want  string
	}{
		{1, l, ""}, {1, []api.Value{l[2], l[0], l[1]}, ""}, {0, l, "Order"}, {1, l[:2], "Len"}, {1, []api.Value{l[0], l[1], sample.Num(3)}, "Items"},
	} {
		if wrong := model.WrongOfSortedSet(s, c.by, c.plain); wrong != c.want {
			t.Errorf("order %d, %v: %q, want %q", c.by, c.plain, wrong, c.want)
		}
	}
	if wrong := model.WrongOfSortedSet(nil, 0, nil); wrong != "" {
		t.Errorf("nil: %q", wrong)
	}
}

func TestWrongOfDeque(t *testing.T) {
	l := sample.Numbers(3)
	d, _ := finger.Of(l)
	for _, c := range []struct {
		plain []api.Value
		want  string
	}{
		{l, ""}, {nil, "Len"}, {l[:2], "Len"}, {sample.Numbers(4), "Len"}, {[]api.Value{l[0], l[2], l[1]}, "Items"},
	} {
		if wrong := model.WrongOfDeque(d, c.plain); wrong != c.want {
			t.Errorf("%v: %q, want %q", c.plain, wrong, c.want)
		}
	}
	if wrong := model.WrongOfDeque(nil, nil); wrong != "" {
		t.Errorf("nil: %q", wrong)
	}
}

// The most levels are log2(n) and 2, rounded down: of 3 items 3.58, of 1000 items 11.97. So many as 8 items fit into one level, 8 and 24 into two.
func TestDequeFits(t *testing.T) {
	for _, c := range []struct {
		n, least, most int
	}{
		{0, 0, 0}, {1, 1, 2}, {2, 1, 3}, {3, 1, 3}, {4, 1, 4}, {7, 1, 4}, {8, 1, 5}, {9, 2, 5}, {32, 2, 7}, {33, 3, 7}, {1000, 6, 11}, {1023, 6, 11}, {1024, 6, 12}, {65535, 9, 17}, {65536, 9, 18},
	} {
		for h := -1; h < 40; h++ {
			if got, want := model.DequeFits(c.n, h), c.least <= h && h <= c.most; got != want {
				t.Errorf("%d items, %d levels: %v", c.n, h, got)
			}
		}
	}
}

func TestWeights(t *testing.T) {
	num := sample.Num
	l := []api.Value{num(2), num(0), num(3), num(-1), num(api.MaxLen), num(api.MaxLen + 1), sample.Str("aa"), {}}
	if w := model.Weight(l); w != 5+1+api.MaxLen+3 || model.Weight(nil) != 0 {
		t.Errorf("Weight: %d", w)
	}
	for _, c := range []struct {
		w     int64
		at    int
		there bool
	}{
		{0, 0, true}, {1, 0, true}, {2, 2, true}, {4, 2, true}, {5, 3, true}, {6, 4, true}, {5 + api.MaxLen, 4, true}, {6 + api.MaxLen, 5, true}, {8 + api.MaxLen, 7, true}, {9 + api.MaxLen, 8, false}, {1 << 62, 8, false},
	} {
		if at, there := model.Above(l, c.w); at != c.at || there != c.there {
			t.Errorf("Above %d: %d, %v", c.w, at, there)
		}
	}
	if at, there := model.Above(nil, 0); at != 0 || there {
		t.Errorf("Above of none: %d, %v", at, there)
	}
}

func TestWrongOfQueue(t *testing.T) {
	l := []api.Value{sample.Num(1), sample.Num(0), sample.Num(1)}
	q, _ := pairing.Of(1, l)
	for _, c := range []struct {
		by    int
		plain []api.Value
		want  string
	}{
		{1, l, ""}, {1, []api.Value{l[1], l[0], l[2]}, ""}, {0, l, "Order"}, {1, nil, "Len"}, {1, l[:2], "Len"}, {1, []api.Value{l[0], l[1], l[1]}, "Sorted"},
	} {
		if wrong := model.WrongOfQueue(q, c.by, c.plain); wrong != c.want {
			t.Errorf("order %d, %v: %q, want %q", c.by, c.plain, wrong, c.want)
		}
	}
	if wrong := model.WrongOfQueue(nil, 0, nil); wrong != "" {
		t.Errorf("nil: %q", wrong)
	}
}

func TestPairsOfSeveral(t *testing.T) {
	num := sample.Num
	l := model.Ints(1, 10, 1, 20, 2, 10)
	for _, c := range []struct{ got, want []api.Pair }{
		{model.Add(l, num(2), num(20)), model.Ints(1, 10, 1, 20, 2, 10, 2, 20)},
		{model.Add(l, num(1), num(10)), model.Ints(1, 20, 2, 10, 1, 10)},
		{model.AddAll(l, model.Ints(1, 10, 3, 5)), model.Ints(1, 20, 2, 10, 1, 10, 3, 5)},
		{model.AddAll(nil, model.Ints(1, 10, 1, 10)), model.Ints(1, 10)},
		{model.Remove(l, num(1), num(20)), model.Ints(1, 10, 2, 10)},
		{model.Remove(l, num(2), num(20)), l},
		{model.RemoveKey(l, num(1)), model.Ints(2, 10)},
		{model.RemoveKey(l, num(10)), l},
		{model.Turned(l), model.Ints(10, 1, 20, 1, 10, 2)},
		{model.InPairOrder(32, model.Ints(2, 10, 1, 20, 1, 10)), l},
		// Under kind 39 the hash of 2 comes ahead of that of 1.
		{model.InPairOrder(39, model.Ints(1, 1, 1, 2, 2, 1, 2, 2)), model.Ints(2, 2, 2, 1, 1, 2, 1, 1)},
	} {
		if !sample.SamePairs(c.got, c.want) {
			t.Errorf("%v, want %v", c.got, c.want)
		}
	}
	if s := model.ByKeys(l); len(s) != 2 || s[0].Key.Num != 1 || len(s[0].Values) != 2 || s[0].Values[1].Num != 20 || s[1].Key.Num != 2 || len(s[1].Values) != 1 || model.ByKeys(nil) != nil {
		t.Errorf("ByKeys: %v", s)
	}
	if !sample.SamePairs(l, model.Ints(1, 10, 1, 20, 2, 10)) {
		t.Errorf("changed: %v", l)
	}
}

func TestWrongOfMulti(t *testing.T) {
	l := model.Ints(1, 10, 1, 20, 2, 10)
	m, _ := multi.Of(5, l)
	for _, c := range []struct {
		kind  int
		plain []api.Pair
		want  string
	}{
		{5, l, ""}, {5, []api.Pair{l[1], l[2], l[0]}, ""}, {0, l, "Kind"}, {5, l[:2], "Len"}, {5, model.Ints(1, 10, 1, 21, 2, 10), "Pairs"}, {5, model.Ints(1, 10, 1, 20, 3, 10), "Pairs"},
	} {
		if wrong := model.WrongOfMulti(m, c.kind, c.plain); wrong != c.want {
			t.Errorf("kind %d, %v: %q, want %q", c.kind, c.plain, wrong, c.want)
		}
	}
	if wrong := model.WrongOfMulti(nil, 0, nil); wrong != "" {
		t.Errorf("nil: %q", wrong)
	}
}

func TestPairsBothWays(t *testing.T) {
	num := sample.Num
	l := model.Ints(1, 10, 2, 20, 3, 30)
	for _, c := range []struct{ got, want []api.Pair }{
		{model.PutBoth(l, num(4), num(40)), model.Ints(1, 10, 2, 20, 3, 30, 4, 40)},
		{model.PutBoth(l, num(10), num(1)), model.Ints(1, 10, 2, 20, 3, 30, 10, 1)},
		{model.PutBoth(l, num(1), num(40)), model.Ints(2, 20, 3, 30, 1, 40)},
		{model.PutBoth(l, num(4), num(10)), model.Ints(2, 20, 3, 30, 4, 10)},
		{model.PutBoth(l, num(1), num(20)), model.Ints(3, 30, 1, 20)},
		{model.PutBoth(l, num(1), num(10)), model.Ints(2, 20, 3, 30, 1, 10)},
		{model.PutBoth(nil, num(1), num(10)), l[:1]},
		{model.PutAllBoth(l, model.Ints(4, 10, 4, 20)), model.Ints(3, 30, 4, 20)},
		{model.PutAllBoth(nil, l), l},
		{model.RemoveValue(l, num(20)), model.Ints(1, 10, 3, 30)},
		{model.RemoveValue(l, num(2)), l},
		{model.RemoveValue(nil, num(2)), nil},
	} {
		if !sample.SamePairs(c.got, c.want) {
			t.Errorf("%v, want %v", c.got, c.want)
		}
	}
	if !sample.SamePairs(l, model.Ints(1, 10, 2, 20, 3, 30)) {
		t.Errorf("changed: %v", l)
	}
}

func TestWrongOfBimap(t *testing.T) {
	// Under kind 39 the hash of 2 comes ahead of that of 1: as keys, and as values.
	m, _ := bimap.New(39)
	m, _ = m.Put(sample.Num(1), sample.Num(2))
	m, _ = m.Put(sample.Num(2), sample.Num(1))
	one, _ := m.Delete(sample.Num(2))
	ten, _ := m.Put(sample.Num(10), sample.Num(1))
	for _, c := range []struct {
		m     *bimap.Map
		kind  int
		plain []api.Pair
		want  string
	}{
		{m, 39, model.Ints(1, 2, 2, 1), ""}, {m, 39, model.Ints(2, 1, 1, 2), ""}, {m, 32, model.Ints(1, 2, 2, 1), "Pairs"}, {m, 39, model.Ints(1, 2), "Len"}, {m, 39, nil, "Len"}, {m, 39, model.Ints(1, 2, 2, 3), "Pairs"},
		{one, 39, model.Ints(1, 2), ""}, {one, 39, model.Ints(1, 3), "Pairs"}, {one, 39, model.Ints(2, 1), "Pairs"}, {nil, 0, nil, ""}, {nil, 0, model.Ints(1, 2), "Len"},
		{ten, 39, model.Ints(1, 2, 10, 1), ""},
	} {
		if wrong := model.WrongOfBimap(c.m, c.kind, c.plain); wrong != c.want {
			t.Errorf("kind %d, %v: %q, want %q", c.kind, c.plain, wrong, c.want)
		}
	}
}
