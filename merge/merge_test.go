package merge_test

import (
	"fmt"
	"math"
	"slices"
	"strings"
	"testing"
	"unsafe"

	"spinney/api"
	"spinney/champ"
	"spinney/fns"
	"spinney/merge"
	"spinney/model"
	"spinney/sample"
	"spinney/value"
)

func none() api.Value                   { return api.Value{} }
func num(n int64) api.Value             { return sample.Num(n) }
func str(s string) api.Value            { return sample.Str(s) }
func list(items ...api.Value) api.Value { return sample.List(items...) }
func pair(k, v api.Value) api.Pair      { return api.Pair{Key: k, Val: v} }
func ints(l ...int64) []api.Pair        { return model.Ints(l...) }

// short is what a failing test shows of something that may be long.
func short(x any) string {
	s := fmt.Sprint(x)
	return s[:min(len(s), 200)]
}

// must is a map that came without an error.
func must(t *testing.T) func(*champ.Map, api.Errno) *champ.Map {
	return func(m *champ.Map, e api.Errno) *champ.Map {
		t.Helper()
		if m == nil || e != api.OK {
			t.Fatalf("no map: %v", e)
		}
		return m
	}
}

// of is a map of pairs.
func of(t *testing.T, kind int, l []api.Pair) *champ.Map {
	t.Helper()
	return must(t)(champ.Of(kind, l))
}

// check asks a map everything, against a plain list of pairs with unlike keys.
func check(t *testing.T, m *champ.Map, kind int, plain []api.Pair) {
	t.Helper()
	if wrong := model.WrongOfMap(m, kind, plain); m == nil || wrong != "" {
		t.Fatalf("%s is wrong: %s of kind %d, want %s of kind %d", wrong, short(m.Pairs()), m.Kind(), short(plain), kind)
	}
}

// checkDiff asks for what Diff tells, and for what Equal must tell then.
func checkDiff(t *testing.T, a, b *champ.Map, lacks, more, other []api.Value) {
	t.Helper()
	x, y, z := merge.Diff(a, b)
	if !sample.SameAll(x, lacks) || !sample.SameAll(y, more) || !sample.SameAll(z, other) {
		t.Fatalf("Diff(%s, %s): %s, %s, %s, want %s, %s, %s", short(a.Pairs()), short(b.Pairs()), short(x), short(y), short(z), short(lacks), short(more), short(other))
	}
	if same := len(lacks)+len(more)+len(other) == 0; merge.Equal(a, b) != same {
		t.Fatalf("Equal(%s, %s): %v", short(a.Pairs()), short(b.Pairs()), !same)
	}
}

// The chapter's example.
func TestExample(t *testing.T) {
	a := of(t, 0, []api.Pair{pair(num(1), str("a")), pair(num(2), str("b"))})
	b := of(t, 0, []api.Pair{pair(num(2), str("c"))})
	check(t, must(t)(merge.Merge(a, b)), 0, []api.Pair{pair(num(1), str("a")), pair(num(2), str("c"))})
	checkDiff(t, a, b, nil, []api.Value{num(1)}, []api.Value{num(2)})
}

// 9.1: each function of two values, worked out by hand.
func TestWithByHand(t *testing.T) {
	least, most := num(math.MinInt64), num(math.MaxInt64)
	for _, c := range []struct {
		fn         int
		a, b, want api.Value
	}{
		{api.TwoAdd, num(2), num(3), num(5)}, {api.TwoAdd, most, num(1), least}, {api.TwoAdd, str("a"), num(1), str("a")}, {api.TwoAdd, num(1), none(), num(1)},
		{api.TwoMax, num(2), num(3), num(3)}, {api.TwoMax, str("a"), num(3), str("a")}, {api.TwoMin, num(2), num(3), num(2)}, {api.TwoMin, num(3), none(), none()},
		{api.TwoConj, list(num(1)), num(2), list(num(1), num(2))}, {api.TwoConj, num(1), num(2), list(num(2))}, {api.TwoConj, sample.Nested(api.MaxDeep, num(1)), sample.Nested(api.MaxDeep, num(1)), sample.Nested(api.MaxDeep, num(1))},
		{api.TwoLeft, num(2), num(3), num(2)}, {api.TwoLeft, none(), num(3), none()}, {api.TwoRight, num(2), num(3), num(3)}, {api.TwoRight, num(2), none(), none()},
		{api.TwoStop, num(60), num(50), num(110)}, {api.TwoStop, num(6), num(5), num(11)}, {api.TwoStop, str("a"), num(500), str("a")},
		{api.TwoCount, num(2), num(30), num(3)}, {api.TwoCount, most, num(30), least}, {api.TwoCount, str("a"), num(3), num(1)},
	} {
		for _, kind := range []int{0, 5, 32, 63} {
			a := of(t, kind, []api.Pair{pair(num(1), num(10)), pair(num(2), c.a)})
			b := of(t, 3, []api.Pair{pair(num(2), c.b), pair(num(3), num(30)), pair(num(4), num(40))})
			want := []api.Pair{pair(num(1), num(10)), pair(num(2), c.want), pair(num(3), num(30)), pair(num(4), num(40))}
			check(t, must(t)(merge.With(c.fn, a, b)), kind, want)
		}
	}
}

// 9.1: TwoStop stops nothing here: the keys behind come in, too.
func TestWithThatStops(t *testing.T) {
	for _, kind := range []int{0, 32} {
		m := must(t)(merge.With(api.TwoStop, of(t, kind, model.Numbered(0, 20, num(90))), of(t, kind, model.Numbered(5, 30, num(90)))))
		check(t, m, kind, slices.Concat(model.Numbered(0, 5, num(90)), model.Numbered(5, 15, num(180)), model.Numbered(20, 15, num(90))))
	}
}

// joined are plain pairs of both lists; a key of both has what a function of two values makes.
func joined(fn int, a, b []api.Pair) []api.Pair {
	out := slices.Clone(a)
	for _, p := range b {
		v := p.Val
		if i := model.Find(a, p.Key); i >= 0 {
			v, _, _ = fns.Two(fn, a[i].Val, p.Val)
		}
		out = model.Put(out, p.Key, v)
	}
	return out
}

// told are the keys of plain pairs, in trie order, that a question picks by where the key stands in other pairs (-1, if it does not).
func told(kind int, l, other []api.Pair, pick func(p api.Pair, at int) bool) []api.Value {
	var out []api.Value
	for _, p := range model.InTrieOrder(kind, l) {
		if pick(p, model.Find(other, p.Key)) {
			out = append(out, p.Key)
		}
	}
	return out
}

// checkTwo asks for all that is made of two maps, against plain pairs.
func checkTwo(t *testing.T, x, y int, a, b []api.Pair) {
	t.Helper()
	m, n := of(t, x, a), of(t, y, b)
	check(t, must(t)(merge.Merge(m, n)), x, model.PutAll(a, b))
	for fn := range api.TwoCount + 1 {
		check(t, must(t)(merge.With(fn, m, n)), x, joined(fn, a, b))
	}
	missing := func(_ api.Pair, at int) bool { return at < 0 }
	unlike := func(p api.Pair, at int) bool { return at >= 0 && !sample.Same(p.Val, b[at].Val) }
	checkDiff(t, m, n, told(y, b, a, missing), told(x, a, b, missing), told(x, a, b, unlike))
	check(t, m, x, a)
	check(t, n, y, b)
}

// stock are unlike keys; the last two have the same hash.
func stock(s *sample.Source, n int) []api.Value { return append(s.Keys(n), none(), str("")) }

// some are pairs of some of the keys, with values of a small stock, so that they are often the same.
func some(s *sample.Source, keys []api.Value) []api.Pair {
	var out []api.Pair
	for _, k := range sample.Shuffled(s, keys)[:s.Below(len(keys)+1)] {
		out = append(out, pair(k, s.Value(1)))
	}
	return out
}

// 9.1, 9.2, R7, P2: of all kinds, alike and unlike.
func TestTwoMaps(t *testing.T) {
	s := sample.New(9)
	for x := range api.MaxHash + 1 {
		for _, y := range []int{x, 0, 32, s.Below(api.MaxHash + 1)} {
			keys := stock(s, 12)
			a, b := some(s, keys), some(s, keys)
			checkTwo(t, x, y, a, b)
			checkTwo(t, x, y, a, a)
			checkTwo(t, x, y, a, sample.Shuffled(s, a))
			checkTwo(t, x, y, a, nil)
			checkTwo(t, x, y, nil, a)
			checkTwo(t, x, y, nil, nil)
			checkTwo(t, x, y, a[:len(a)/2], a)
			checkTwo(t, x, y, a, a[len(a)/2:])
			checkTwo(t, x, y, a[:len(a)/2], a[len(a)/2:])
			if len(a) > 0 {
				checkTwo(t, x, y, a, model.Put(a, a[0].Key, list(a[0].Val)))
			}
		}
	}
}

// 9.2: each list has the order of its own map. The hashes of 1 and 2 stand the other way round under kind 39.
func TestDiffOrders(t *testing.T) {
	rising, turned := []api.Value{num(1), num(2)}, []api.Value{num(2), num(1)}
	three := []api.Value{num(3)}
	for _, c := range []struct {
		x, y               int
		a, b               []api.Pair
		lacks, more, other []api.Value
	}{
		{0, 39, ints(1, 5, 2, 6), nil, nil, rising, nil},
		{39, 0, ints(1, 5, 2, 6), nil, nil, turned, nil},
		{0, 39, nil, ints(1, 5, 2, 6), turned, nil, nil},
		{39, 0, nil, ints(1, 5, 2, 6), rising, nil, nil},
		{0, 39, ints(1, 5, 2, 6), ints(1, 6, 2, 5), nil, nil, rising},
		{39, 0, ints(1, 5, 2, 6), ints(1, 6, 2, 5), nil, nil, turned},
		{39, 32, ints(3, 5), ints(2, 5, 1, 6), rising, three, nil},
		{32, 39, ints(3, 5), ints(2, 5, 1, 6), turned, three, nil},
		{32, 39, ints(3, 5, 1, 1, 2, 2), ints(2, 5, 1, 6), nil, three, rising},
		{39, 32, ints(2, 5, 1, 6), ints(3, 5, 1, 1, 2, 2), three, nil, turned},
	} {
		checkDiff(t, of(t, c.x, c.a), of(t, c.y, c.b), c.lacks, c.more, c.other)
	}
}

// 9.2: maps that differ in one key, in one value, in a value's kind alone.
func TestEqualByHand(t *testing.T) {
	base := ints(1, 5, 2, 6, 0, 0)
	for _, c := range []struct {
		other []api.Pair
		want  bool
	}{
		{base, true}, {ints(0, 0, 2, 6, 1, 5), true}, {ints(1, 5, 2, 6), false}, {ints(1, 5, 2, 6, 0, 0, 3, 0), false}, {ints(1, 5, 2, 6, 3, 0), false},
		{ints(1, 5, 2, 6, 0, 1), false}, {append(ints(1, 5, 2, 6), pair(num(0), none())), false}, {append(ints(1, 5, 2, 6), pair(none(), num(0))), false}, {nil, false},
	} {
		for _, x := range []int{0, 7, 32, 39} {
			for _, y := range []int{0, 32, 61} {
				a, b := of(t, x, base), of(t, y, c.other)
				if merge.Equal(a, b) != c.want || merge.Equal(b, a) != c.want {
					t.Errorf("kinds %d, %d: Equal to %v: %v, %v, want %v", x, y, c.other, merge.Equal(a, b), merge.Equal(b, a), c.want)
				}
			}
		}
	}
}

// 9.3: each question by hand, and of all kinds against plain pairs.
func TestKeep(t *testing.T) {
	values := []api.Value{none(), sample.Bool(0), sample.Bool(1), num(-2), num(-1), num(0), num(1), num(2), str(""), str("a"), list(), list(num(2)), sample.Set(), sample.Map()}
	var pairs []api.Pair
	for i, v := range values {
		pairs = append(pairs, pair(num(int64(i)), v))
	}
	kept := map[int][]int64{
		api.IsAll: {0, 1, 2, 3, 4, 5, 6, 7, 8, 9, 10, 11, 12, 13}, api.IsNone: {}, api.IsInt: {3, 4, 5, 6, 7}, api.IsEven: {3, 5, 7},
		api.IsPos: {6, 7}, api.IsText: {8, 9}, api.IsColl: {10, 11, 12, 13}, api.IsNil: {0},
	}
	for kind := range api.MaxHash + 1 {
		for q, keys := range kept {
			var want []api.Pair
			for _, k := range keys {
				want = append(want, pairs[k])
			}
			m := of(t, kind, pairs)
			check(t, must(t)(merge.Keep(q, m)), kind, want)
			check(t, must(t)(merge.Keep(q, of(t, kind, nil))), kind, nil)
			check(t, m, kind, pairs)
		}
	}
}

// 9.3: Keep asks of the values, not of the keys.
func TestKeepAsksOfValues(t *testing.T) {
	m := of(t, 0, []api.Pair{pair(num(1), str("a")), pair(str("b"), num(2))})
	check(t, must(t)(merge.Keep(api.IsInt, m)), 0, []api.Pair{pair(str("b"), num(2))})
	check(t, must(t)(merge.Keep(api.IsText, m)), 0, []api.Pair{pair(num(1), str("a"))})
}

// 9.3
func TestOnly(t *testing.T) {
	for kind := range api.MaxHash + 1 {
		pairs := ints(1, 10, 2, 20, 3, 30)
		m := of(t, kind, pairs)
		for _, c := range []struct {
			l    []api.Value
			want []api.Pair
		}{
			{nil, nil}, {[]api.Value{}, nil}, {[]api.Value{num(4), none(), str("1"), num(10), list(num(1))}, nil},
			{[]api.Value{num(2)}, ints(2, 20)}, {[]api.Value{num(3), num(9), num(1), num(3)}, ints(1, 10, 3, 30)},
			{[]api.Value{num(3), num(2), num(1), num(0)}, pairs}, {slices.Repeat([]api.Value{num(2)}, 9), ints(2, 20)},
		} {
			check(t, must(t)(merge.Only(m, c.l)), kind, c.want)
			check(t, must(t)(merge.Only(of(t, kind, nil), c.l)), kind, nil)
		}
		check(t, m, kind, pairs)
		s := sample.New(uint64(kind))
		plain := some(s, s.Keys(20))
		keys := append(s.Keys(10), model.Keys(plain)[:len(plain)/2]...)
		want := slices.DeleteFunc(slices.Clone(plain), func(p api.Pair) bool {
			return !slices.ContainsFunc(keys, func(k api.Value) bool { return sample.Same(k, p.Key) })
		})
		check(t, must(t)(merge.Only(of(t, kind, plain), keys)), kind, want)
	}
}

// 9.3
func TestRehash(t *testing.T) {
	for from := range api.MaxHash + 1 {
		s := sample.New(uint64(from))
		plain := some(s, stock(s, 12))
		m := of(t, from, plain)
		for to := range api.MaxHash + 1 {
			n := must(t)(merge.Rehash(m, to))
			check(t, n, to, plain)
			checkDiff(t, m, n, nil, nil, nil)
			check(t, must(t)(merge.Rehash(n, from)), from, plain)
		}
		check(t, must(t)(merge.Rehash(of(t, from, nil), from)), from, nil)
		check(t, m, from, plain)
	}
}

// 9.4, P9, P4: where the law says that two maps are the same, they tell the same, in one form.
func TestLaws(t *testing.T) {
	s := sample.New(4)
	merged := func(a, b *champ.Map) *champ.Map { return must(t)(merge.Merge(a, b)) }
	for range 300 {
		keys := stock(s, 10)
		x, y, z := s.Below(api.MaxHash+1), s.Below(api.MaxHash+1), s.Below(api.MaxHash+1)
		plain := some(s, keys)
		a, b, c := of(t, x, plain), of(t, y, some(s, keys)), of(t, z, some(s, keys))
		check(t, merged(a, a), x, plain)
		check(t, merged(a, must(t)(merge.Rehash(a, y))), x, plain)
		left, right := merged(merged(a, b), c), merged(a, merged(b, c))
		check(t, left, x, right.Pairs())
		for _, two := range [][2]*champ.Map{{a, b}, {b, a}, {a, a}, {left, right}, {a, left}, {a, must(t)(merge.Rehash(a, z))}} {
			lacks, more, other := merge.Diff(two[0], two[1])
			if nothing := len(lacks)+len(more)+len(other) == 0; merge.Equal(two[0], two[1]) != nothing {
				t.Fatalf("Equal: %v, Diff: %v, %v, %v", !nothing, lacks, more, other)
			}
		}
		for q := range api.IsNil + 1 {
			kept := must(t)(merge.Keep(q, a))
			_, gone, _ := merge.Diff(a, kept)
			rest := must(t)(merge.Only(a, gone))
			check(t, merged(kept, rest), x, plain)
			check(t, merged(rest, kept), x, plain)
			check(t, must(t)(merge.Keep(q, rest)), x, nil)
			check(t, must(t)(merge.Keep(q, kept)), x, kept.Pairs())
		}
	}
}

// 9.1: MaxLen keys, and one more.
func TestMaxLen(t *testing.T) {
	const half = api.MaxLen / 2
	for _, kind := range []int{0, 32} {
		full := of(t, kind, model.Numbered(0, api.MaxLen, num(1)))
		first, rest := of(t, kind, model.Numbered(0, half, num(1))), of(t, 5, model.Numbered(half, half, num(1)))
		over, beside := of(t, kind, model.Numbered(half, half+1, num(1))), of(t, 7, model.Numbered(-1, 2, num(2)))
		for _, two := range [][2]*champ.Map{{full, beside}, {beside, full}, {first, over}, {over, first}} {
			if m, e := merge.Merge(two[0], two[1]); m != nil || e != api.ErrLong {
				t.Errorf("kind %d: Merge of %d and %d: %v", kind, two[0].Len(), two[1].Len(), e)
			}
			for _, fn := range []int{api.TwoAdd, api.TwoLeft} {
				if m, e := merge.With(fn, two[0], two[1]); m != nil || e != api.ErrLong {
					t.Errorf("kind %d: With(%d) of %d and %d: %v", kind, fn, two[0].Len(), two[1].Len(), e)
				}
			}
		}
		checkDiff(t, full, must(t)(merge.Merge(first, rest)), nil, nil, nil)
		checkDiff(t, full, must(t)(merge.With(api.TwoMax, full, full)), nil, nil, nil)
		sum := must(t)(merge.With(api.TwoAdd, full, rest))
		if v, _, _ := sum.Get(num(half)); sum.Len() != api.MaxLen || !sample.Same(v, num(2)) {
			t.Errorf("kind %d: With of all and a half: %d keys, %v", kind, sum.Len(), v)
		}
		if _, _, other := merge.Diff(full, sum); len(other) != half {
			t.Errorf("kind %d: %d values are unlike", kind, len(other))
		}
		if m := must(t)(merge.Only(full, sample.Numbers(api.MaxLen))); !merge.Equal(m, full) || !merge.Equal(must(t)(merge.Keep(api.IsInt, full)), full) {
			t.Errorf("kind %d: Only, Keep of all", kind)
		}
	}
}

// 9.3, R1: a list of MaxLen keys, of one more, with wrong ones.
func TestOnlyErrors(t *testing.T) {
	many := slices.Repeat([]api.Value{num(1), num(9)}, api.MaxLen/2)
	bad := sample.Bool(2)
	for _, m := range []*champ.Map{nil, of(t, 32, nil), of(t, 3, ints(1, 10, 2, 20))} {
		check(t, must(t)(merge.Only(m, many)), m.Kind(), ints(1, 10)[:min(m.Len(), 1)])
		for _, l := range [][]api.Value{slices.Concat(many, many[:1]), slices.Concat(many, []api.Value{bad}), slices.Concat([]api.Value{bad}, many)} {
			if n, e := merge.Only(m, l); n != nil || e != api.ErrLong {
				t.Errorf("Only of %d keys: %v", len(l), e)
			}
		}
		if n, e := merge.Only(m, slices.Concat(many[1:], []api.Value{bad})); n != nil || e != api.ErrValue {
			t.Errorf("Only of MaxLen keys, the last one wrong: %v", e)
		}
		for _, w := range sample.Wrongs() {
			for _, l := range [][]api.Value{{w}, {num(1), w}, {w, num(1)}} {
				if n, e := merge.Only(m, l); n != nil || e != api.ErrValue {
					t.Errorf("Only(%s): %v", short(l), e)
				}
			}
		}
	}
}

// 9.1, 9.3, R1, R4: numbers that pick nothing, also of empty maps; a wrong function comes ahead of too many keys.
func TestWrongNumbers(t *testing.T) {
	full, beside := of(t, 0, model.Numbered(0, api.MaxLen, none())), of(t, 0, ints(-1, 0))
	for _, m := range []*champ.Map{nil, of(t, 32, nil), of(t, 3, ints(1, 10, 2, 20)), full} {
		for _, fn := range sample.Beyond(api.TwoCount) {
			for _, other := range []*champ.Map{nil, m, beside} {
				if n, e := merge.With(fn, m, other); n != nil || e != api.ErrKind {
					t.Errorf("With(%d): %v", fn, e)
				}
			}
		}
		for _, q := range sample.Beyond(api.IsNil) {
			if n, e := merge.Keep(q, m); n != nil || e != api.ErrKind {
				t.Errorf("Keep(%d): %v", q, e)
			}
		}
		for _, kind := range sample.Beyond(api.MaxHash) {
			if n, e := merge.Rehash(m, kind); n != nil || e != api.ErrKind {
				t.Errorf("Rehash(%d): %v", kind, e)
			}
		}
	}
}

// R6, R7: nil maps are empty ones of kind 0, and so are zero ones; what is made of them is not nil.
func TestNilMaps(t *testing.T) {
	other := of(t, 7, ints(1, 2, 3, 4))
	keys := []api.Value{num(1), num(3)}
	for _, m := range []*champ.Map{nil, {}, of(t, 0, nil)} {
		for fn := range api.TwoCount + 1 {
			check(t, must(t)(merge.With(fn, m, other)), 0, ints(1, 2, 3, 4))
			check(t, must(t)(merge.With(fn, other, m)), 7, ints(1, 2, 3, 4))
			check(t, must(t)(merge.With(fn, m, nil)), 0, nil)
			check(t, must(t)(merge.With(fn, nil, m)), 0, nil)
		}
		check(t, must(t)(merge.Merge(m, other)), 0, ints(1, 2, 3, 4))
		check(t, must(t)(merge.Merge(other, m)), 7, ints(1, 2, 3, 4))
		check(t, must(t)(merge.Merge(m, nil)), 0, nil)
		check(t, must(t)(merge.Merge(nil, m)), 0, nil)
		checkDiff(t, m, other, sample.InTrieOrder(7, keys), nil, nil)
		checkDiff(t, other, m, nil, sample.InTrieOrder(7, keys), nil)
		checkDiff(t, m, nil, nil, nil, nil)
		checkDiff(t, nil, m, nil, nil, nil)
		checkDiff(t, m, of(t, 32, nil), nil, nil, nil)
		for q := range api.IsNil + 1 {
			check(t, must(t)(merge.Keep(q, m)), 0, nil)
		}
		check(t, must(t)(merge.Only(m, keys)), 0, nil)
		check(t, must(t)(merge.Only(m, nil)), 0, nil)
		check(t, must(t)(merge.Rehash(m, 9)), 9, nil)
		check(t, must(t)(merge.Rehash(m, 0)), 0, nil)
	}
}

// P3: every map that anything was made of tells for ever what it told.
func TestNothingOlderChanges(t *testing.T) {
	type version struct {
		m     *champ.Map
		kind  int
		plain []api.Pair
	}
	s := sample.New(6)
	keys := stock(s, 10)
	var versions []version
	for _, kind := range []int{0, 1, 3, 5, 31, 32, 33, 40, 59, 63} {
		plain := some(s, keys)
		versions = append(versions, version{of(t, kind, plain), kind, plain})
	}
	for range 200 {
		v, w := versions[s.Below(len(versions))], versions[s.Below(len(versions))]
		fn, to := s.Below(api.TwoCount+1), s.Below(api.MaxHash+1)
		merge.Diff(v.m, w.m)
		merge.Equal(v.m, w.m)
		versions = append(versions,
			version{must(t)(merge.With(fn, v.m, w.m)), v.kind, joined(fn, v.plain, w.plain)},
			version{must(t)(merge.Merge(v.m, w.m)), v.kind, model.PutAll(v.plain, w.plain)},
			version{must(t)(merge.Rehash(v.m, to)), to, v.plain},
			version{must(t)(merge.Only(v.m, keys)), v.kind, v.plain},
			version{must(t)(merge.Keep(api.IsAll, v.m)), v.kind, v.plain},
		)
	}
	for _, v := range versions {
		check(t, v.m, v.kind, v.plain)
	}
}

// others are pairs with the keys of model.Nested, and unlike values that hold lists.
func others() []api.Pair {
	out := model.Nested()
	for i := range out {
		out[i].Val = list(out[i].Val, num(int64(i)))
	}
	return out
}

// R3: lists of keys stay as they are, and are not kept.
func TestArgumentsStay(t *testing.T) {
	for _, kind := range []int{0, 3, 32, 40} {
		l := sample.RoomyAll(model.Keys(model.Nested()))
		m := must(t)(merge.Only(of(t, kind, model.Nested()), l))
		if !sample.SameAll(l, model.Keys(model.Nested())) || !sample.RoomKept(l) {
			t.Errorf("kind %d: changed: %v", kind, l)
		}
		sample.Spoil(l)
		check(t, m, kind, model.Nested())
	}
}

// R3: writing over what a map or a Diff tells changes nothing that another map tells.
func TestAnswersAreNew(t *testing.T) {
	for _, kind := range []int{0, 3, 32, 40} {
		a, b := of(t, kind, model.Nested()), of(t, 5, others())
		for fn := range api.TwoCount + 1 {
			m := must(t)(merge.With(fn, a, b))
			sample.SpoilPairs(m.Pairs())
			check(t, m, kind, joined(fn, model.Nested(), others()))
		}
		made := []*champ.Map{a, must(t)(merge.Merge(a, a)), must(t)(merge.Merge(b, a)), must(t)(merge.Keep(api.IsColl, a)), must(t)(merge.Only(a, model.Keys(model.Nested()))), must(t)(merge.Rehash(a, 9))}
		for _, m := range made {
			sample.SpoilPairs(m.Pairs())
			for _, p := range model.Nested() {
				v, _, _ := m.Get(p.Key)
				sample.Spoil(v.Items)
			}
		}
		for _, other := range []*champ.Map{nil, b} {
			x, y, z := merge.Diff(a, other)
			u, v, w := merge.Diff(other, a)
			for _, l := range [][]api.Value{x, y, z, u, v, w} {
				sample.Spoil(l)
			}
		}
		for _, m := range made {
			check(t, m, m.Kind(), model.Nested())
		}
		check(t, b, 5, others())
	}
}

// R3: no two lists of one Diff share memory, though the maps were made of values that do.
func TestListsOfOneDiff(t *testing.T) {
	part := list(num(1), list(num(2)))
	inner := part.Items[1]
	a := of(t, 0, []api.Pair{pair(part, num(1)), pair(inner, num(1))})
	b := of(t, 0, []api.Pair{pair(inner, num(2)), pair(list(part), num(1))})
	fresh := func() (lacks, more, other []api.Value) {
		return []api.Value{list(list(num(1), list(num(2))))}, []api.Value{list(num(1), list(num(2)))}, []api.Value{list(num(2))}
	}
	lacks, more, other := fresh()
	checkDiff(t, a, b, lacks, more, other)
	for spoilt := range 3 {
		var got, want [3][]api.Value
		got[0], got[1], got[2] = merge.Diff(a, b)
		want[0], want[1], want[2] = fresh()
		sample.Spoil(got[spoilt])
		for i := range got {
			if i != spoilt && !sample.SameAll(got[i], want[i]) {
				t.Errorf("list %d shares memory with list %d: %v", i, spoilt, got[i])
			}
		}
	}
}

// R3
func TestTextsAreNew(t *testing.T) {
	long := strings.Repeat("a", api.MaxText)
	seen := []*byte{unsafe.StringData(long)}
	look := func(v api.Value) {
		at := unsafe.StringData(v.Text)
		if v.Text != long || slices.Contains(seen, at) {
			t.Errorf("the text is not new memory: %q", v.Text)
		}
		seen = append(seen, at)
	}
	a, b := of(t, 0, []api.Pair{pair(str(long), str(long))}), of(t, 0, []api.Pair{pair(str(long), none())})
	for range 2 {
		for _, m := range []*champ.Map{must(t)(merge.Merge(b, a)), must(t)(merge.Keep(api.IsText, a)), must(t)(merge.Only(a, []api.Value{str(long)})), must(t)(merge.Rehash(a, 32))} {
			p := m.Pairs()[0]
			look(p.Key)
			look(p.Val)
		}
		lacks, _, _ := merge.Diff(nil, a)
		_, more, _ := merge.Diff(a, nil)
		_, _, other := merge.Diff(a, b)
		look(lacks[0])
		look(more[0])
		look(other[0])
	}
}

// R2: keys and values that differ in nil and empty lists alone are the same.
func TestNilAndEmptyLists(t *testing.T) {
	for _, v := range []api.Value{{Kind: api.VList}, {Kind: api.VSet}, {Kind: api.VMap}, {}, num(3), str("a")} {
		w := v
		w.Items = []api.Value{}
		if value.Check(w) != api.OK {
			t.Fatalf("not right: %v", w)
		}
		a, b := of(t, 0, []api.Pair{pair(v, w)}), of(t, 32, []api.Pair{pair(w, v)})
		checkDiff(t, a, b, nil, nil, nil)
		check(t, must(t)(merge.Merge(a, b)), 0, []api.Pair{pair(v, v)})
		check(t, must(t)(merge.Only(a, []api.Value{w})), 0, []api.Pair{pair(v, v)})
	}
}
