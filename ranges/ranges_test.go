package ranges_test

import (
	"fmt"
	"slices"
	"testing"

	"spinney/api"
	"spinney/model"
	"spinney/ranges"
	"spinney/redblack"
	"spinney/sample"
)

func none() api.Value                   { return api.Value{} }
func num(n int64) api.Value             { return sample.Num(n) }
func str(s string) api.Value            { return sample.Str(s) }
func list(items ...api.Value) api.Value { return sample.List(items...) }
func pair(k, v api.Value) api.Pair      { return api.Pair{Key: k, Val: v} }
func ints(l ...int64) []api.Pair        { return model.Ints(l...) }

// short is what a failing test shows of something that may be long.
func short(x any) string {
	s := fmt.Sprint(x)
	return s[:min(len(s), 200)]
}

// must is a map that came without an error.
func must(t *testing.T) func(*redblack.Map, api.Errno) *redblack.Map {
	return func(m *redblack.Map, e api.Errno) *redblack.Map {
		t.Helper()
		if m == nil || e != api.OK {
			t.Fatalf("no map: %v", e)
		}
		return m
	}
}

// of is a map of pairs.
func of(t *testing.T, order int, l []api.Pair) *redblack.Map {
	t.Helper()
	return must(t)(redblack.Of(order, l))
}

// check asks a map everything, against a plain list of pairs with unlike keys: for all its places, and for some keys.
func check(t *testing.T, m *redblack.Map, order int, plain []api.Pair, keys []api.Value) {
	t.Helper()
	if wrong := model.WrongOfSorted(m, order, plain); wrong != "" {
		t.Fatalf("%s is wrong: %s of order %d, want %s of order %d", wrong, short(m.Pairs()), m.Order(), short(plain), order)
	}
	if wrong := model.WrongOfRanges(m, order, plain, keys); wrong != "" {
		t.Fatalf("%s is wrong: of %s, order %d, asked for %s", wrong, short(m.Pairs()), order, short(keys))
	}
}

// checkPair is for a pair that must be the one in a place of a list, or zero beside a false where there is no such place.
func checkPair(t *testing.T, name string, l []api.Pair, i int) func(api.Pair, bool, api.Errno) {
	return func(p api.Pair, there bool, e api.Errno) {
		t.Helper()
		want, within := api.Pair{}, i >= 0 && i < len(l)
		if within {
			want = l[i]
		}
		if e != api.OK || there != within || !sample.SamePairs([]api.Pair{p}, []api.Pair{want}) {
			t.Fatalf("%s: %s, %v, %v, want %s, %v", name, short(p), there, e, short(want), within)
		}
	}
}

// The chapter's example.
func TestExamples(t *testing.T) {
	l := ints(1, 10, 3, 30, 5, 50)
	m := of(t, 0, []api.Pair{l[2], l[0], l[1]})
	checkPair(t, "Floor 4", l, 1)(ranges.Floor(m, num(4)))
	checkPair(t, "Ceil 4", l, 2)(ranges.Ceil(m, num(4)))
	checkPair(t, "Lower 3", l, 0)(ranges.Lower(m, num(3)))
	checkPair(t, "Higher 5", l, 3)(ranges.Higher(m, num(5)))
	if n, e := ranges.Rank(m, num(4)); n != 2 || e != api.OK {
		t.Errorf("Rank 4: %d, %v", n, e)
	}
	if got, e := ranges.Between(m, num(1), num(5), true, false); e != api.OK || !sample.SamePairs(got, l[:2]) {
		t.Errorf("Between: %v, %v", got, e)
	}
}

// DOC.md's example 5.
func TestExampleOfTheWhole(t *testing.T) {
	for order := range api.MaxOrder + 1 {
		m := of(t, order, sample.Shuffled(sample.New(1), model.Numbered(0, 1000, none())))
		if m.Height() > 20 {
			t.Errorf("order %d: %d high", order, m.Height())
		}
		ahead := 0
		for k := range m.All() {
			if n, e := ranges.Rank(m, k); n != ahead || e != api.OK {
				t.Fatalf("order %d: Rank(%d): %d, %v, want %d", order, k.Num, n, e, ahead)
			}
			ahead++
		}
	}
}

// halves are every second pair of a list, from the first or the second one on.
func halves(l []api.Pair, from int) []api.Pair {
	var out []api.Pair
	for i := from; i < len(l); i += 2 {
		out = append(out, l[i])
	}
	return out
}

// 15.1, 15.2: of lines by hand every second key is there: so some are asked for that are there, that lie between two, that are ahead of all, and behind all.
func TestByHand(t *testing.T) {
	for order, line := range sample.Lines() {
		all := model.Valued(line)
		for from := range 2 {
			there := halves(all, from)
			m := of(t, order, sample.Shuffled(sample.New(uint64(from)), there))
			for i, k := range line {
				// So many of those that are there stand ahead; one more, if k is there, too.
				ahead := (i - from + 1) / 2
				upTo := ahead
				if i%2 == from {
					upTo++
				}
				checkPair(t, "Floor", there, upTo-1)(ranges.Floor(m, k))
				checkPair(t, "Ceil", there, ahead)(ranges.Ceil(m, k))
				checkPair(t, "Lower", there, ahead-1)(ranges.Lower(m, k))
				checkPair(t, "Higher", there, upTo)(ranges.Higher(m, k))
				if n, e := ranges.Rank(m, k); n != ahead || e != api.OK {
					t.Errorf("order %d: Rank(%s): %d, %v, want %d", order, short(k), n, e, ahead)
				}
			}
			check(t, m, order, there, line)
		}
	}
}

// 15.3: between all two places of a line by hand, all of whose keys are there: from behind to, from that is to, and from ahead of to, with either and without.
func TestBetweenByHand(t *testing.T) {
	for order, line := range sample.Lines() {
		all := model.Valued(line)
		m := of(t, order, all)
		for from := range line {
			for to := range line {
				for with := range 4 {
					withFrom, withTo := with&1 != 0, with&2 != 0
					first, end := from, to
					if !withFrom {
						first++
					}
					if withTo {
						end++
					}
					want := all[first:max(first, end)]
					got, e := ranges.Between(m, line[from], line[to], withFrom, withTo)
					if e != api.OK || !sample.SamePairs(got, want) {
						t.Fatalf("order %d: from %d %v to %d %v: %s, %v, want %s", order, from, withFrom, to, withTo, short(got), e, short(want))
					}
					cut := must(t)(ranges.Cut(m, line[from], line[to], withFrom, withTo))
					if wrong := model.WrongOfSorted(cut, order, want); wrong != "" {
						t.Fatalf("order %d: Cut from %d %v to %d %v: %s is wrong", order, from, withFrom, to, withTo, wrong)
					}
				}
			}
		}
	}
}

// 15.3: ends that are not there themselves are the same with and without.
func TestBetweenOfNoKeys(t *testing.T) {
	m := of(t, 0, ints(2, 20, 4, 40, 6, 60))
	for _, c := range []struct {
		from, to int64
		want     []api.Pair
	}{
		{1, 7, ints(2, 20, 4, 40, 6, 60)}, {3, 5, ints(4, 40)}, {3, 3, nil}, {5, 3, nil}, {7, 9, nil}, {-1, 1, nil}, {7, 1, nil}, {3, 7, ints(4, 40, 6, 60)}, {1, 5, ints(2, 20, 4, 40)}, {9, 8, nil},
	} {
		for with := range 4 {
			got, e := ranges.Between(m, num(c.from), num(c.to), with&1 != 0, with&2 != 0)
			if e != api.OK || !sample.SamePairs(got, c.want) {
				t.Errorf("from %d to %d: %v, %v, want %v", c.from, c.to, got, e, c.want)
			}
		}
	}
	// One end is there.
	if got, _ := ranges.Between(m, num(4), num(7), false, true); !sample.SamePairs(got, ints(6, 60)) {
		t.Errorf("behind 4: %v", got)
	}
	if got, _ := ranges.Between(m, num(1), num(4), true, false); !sample.SamePairs(got, ints(2, 20)) {
		t.Errorf("ahead of 4: %v", got)
	}
}

// 15.1 to 15.3, P2: of maps of few keys and many, made at once and step by step.
func TestOfMany(t *testing.T) {
	for order := range api.MaxOrder + 1 {
		for n := range 24 {
			s := sample.New(uint64(order*100 + n))
			keys := s.Keys(2*n + 3)
			plain := model.Valued(keys[:n])
			m := must(t)(redblack.New(order))
			for _, p := range sample.Shuffled(s, plain) {
				m = must(t)(m.Assoc(p.Key, p.Val))
			}
			asked := append(sample.Shuffled(s, keys)[:min(len(keys), 8)], s.Value(2))
			check(t, of(t, order, plain), order, plain, asked)
			check(t, m, order, plain, asked)
		}
	}
}

// 15.2: the places next to the first and the last one, and far outside.
func TestAtOutside(t *testing.T) {
	for order := range api.MaxOrder + 1 {
		for _, n := range []int{0, 1, 2, 7, 100} {
			m := of(t, order, model.Numbered(0, n, none()))
			for _, i := range sample.Beyond(n - 1) {
				if i >= 0 && i < n {
					continue
				}
				if p, e := ranges.At(m, i); e != api.ErrRange || !sample.SamePairs([]api.Pair{p}, []api.Pair{{}}) {
					t.Errorf("order %d: At(%d) of %d: %v, %v", order, i, n, p, e)
				}
			}
			if n > 0 {
				first, _ := ranges.At(m, 0)
				last, e := ranges.At(m, n-1)
				if l := m.Pairs(); e != api.OK || !sample.SamePairs([]api.Pair{first, last}, []api.Pair{l[0], l[n-1]}) {
					t.Errorf("order %d: %v, %v of %d", order, first, last, n)
				}
			}
		}
	}
}

// rank is how many keys stand ahead of a right key.
func rank(t *testing.T, m *redblack.Map, k api.Value) int {
	t.Helper()
	n, e := ranges.Rank(m, k)
	if e != api.OK {
		t.Fatalf("Rank(%s): %v", short(k), e)
	}
	return n
}

// checkNextTo asks two neighbours of a gap: they stand next to each other; where one is missing, the other one is at the map's end.
func checkNextTo(t *testing.T, m *redblack.Map, ahead, behind func(*redblack.Map, api.Value) (api.Pair, bool, api.Errno), k api.Value) {
	t.Helper()
	a, left, e := ahead(m, k)
	b, right, f := behind(m, k)
	x, y := -1, m.Len()
	if left {
		x = rank(t, m, a.Key)
	}
	if right {
		y = rank(t, m, b.Key)
	}
	if e != api.OK || f != api.OK || y != x+1 {
		t.Fatalf("at %s: places %d and %d of %d, %v, %v", short(k), x, y, m.Len(), e, f)
	}
}

// 15.4
func TestWhatFollows(t *testing.T) {
	for order, line := range sample.Lines() {
		s := sample.New(uint64(order))
		for range 20 {
			keys := model.Keys(model.PutAll(nil, model.Valued(slices.Concat(line, s.Keys(40)))))
			there := sample.Shuffled(s, model.Valued(keys))[:s.Below(len(keys))]
			m := of(t, order, there)
			for _, p := range there {
				if got, e := ranges.At(m, rank(t, m, p.Key)); e != api.OK || !sample.SamePairs([]api.Pair{got}, []api.Pair{p}) {
					t.Fatalf("order %d: %s in the place of %s, %v", order, short(got), short(p), e)
				}
			}
			for _, k := range keys {
				checkNextTo(t, m, ranges.Floor, ranges.Higher, k)
				checkNextTo(t, m, ranges.Lower, ranges.Ceil, k)
			}
			var forth, back []api.Pair
			for k, v := range m.All() {
				forth = append(forth, pair(k, v))
			}
			for k, v := range ranges.Back(m) {
				back = append(back, pair(k, v))
			}
			slices.Reverse(back)
			if !sample.SamePairs(forth, back) {
				t.Fatalf("order %d: Back: %s, All: %s", order, short(back), short(forth))
			}
		}
	}
}

// 15.3: an iterator is gone over again, left at each place, gone over within itself, and outlives what is made of its map.
func TestBack(t *testing.T) {
	for order := range api.MaxOrder + 1 {
		plain := model.Valued(sample.New(3).Keys(30))
		m := of(t, order, plain)
		back, want := ranges.Back(m), model.InOrder(order, plain)
		slices.Reverse(want)
		for n := range len(want) + 1 {
			var got []api.Pair
			for k, v := range back {
				if len(got) == n {
					break
				}
				got = append(got, pair(k, v))
			}
			if !sample.SamePairs(got, want[:n]) {
				t.Fatalf("order %d: left at %d: %s", order, n, short(got))
			}
		}
		outer := 0
		for k := range back {
			inner := 0
			for range back {
				inner++
			}
			must(t)(m.Dissoc(k))
			must(t)(ranges.Cut(m, k, k, true, true))
			if !sample.Same(k, want[outer].Key) || inner != len(want) {
				t.Fatalf("order %d: %d within %d", order, inner, outer)
			}
			outer++
		}
		if outer != len(want) {
			t.Errorf("order %d: gone over %d", order, outer)
		}
		for range ranges.Back(must(t)(redblack.New(order))) {
			t.Errorf("order %d: a pair of none", order)
		}
	}
}

// 15.3: what leaves early is not asked again.
func TestBackStops(t *testing.T) {
	for order := range api.MaxOrder + 1 {
		m := of(t, order, model.Valued(sample.New(4).Keys(20)))
		for n := 1; n <= 20; n++ {
			asked := 0
			ranges.Back(m)(func(k, v api.Value) bool {
				asked++
				return asked < n
			})
			if asked != n {
				t.Errorf("order %d: asked %d times, want %d", order, asked, n)
			}
		}
	}
}

// 14.5, P6: what is cut, and cut again, is flat; what was told of the map before, it tells behind it (P3).
func TestCutsAreFlat(t *testing.T) {
	for order := range api.MaxOrder + 1 {
		s := sample.New(uint64(order))
		plain := model.InOrder(order, model.Valued(sample.Numbers(1500)))
		whole := must(t)(redblack.New(order))
		for _, p := range sample.Shuffled(s, plain) {
			whole = must(t)(whole.Assoc(p.Key, p.Val))
		}
		for range 20 {
			m, first, end := whole, 0, len(plain)
			for end-first > 2 {
				from, to := first+s.Below(1+(end-first)/4), end-1-s.Below(1+(end-first)/4)
				m = must(t)(ranges.Cut(m, plain[from].Key, plain[to].Key, true, false))
				first, end = from, to
				if wrong := model.WrongOfSorted(m, order, plain[first:end]); wrong != "" {
					t.Fatalf("order %d: from %d to %d: %s is wrong, %d high", order, first, end, wrong, m.Height())
				}
			}
		}
		if wrong := model.WrongOfSorted(whole, order, plain); wrong != "" {
			t.Fatalf("order %d: %s is wrong", order, wrong)
		}
	}
}

// P3: what was cut goes its own way, and so does what it was cut from.
func TestCutsAreApart(t *testing.T) {
	for order, line := range sample.Lines() {
		plain := model.Valued(line)
		m := of(t, order, plain)
		cut := must(t)(ranges.Cut(m, line[2], line[8], true, true))
		more := must(t)(cut.Assoc(line[0], num(1)))
		other := must(t)(cut.Assoc(line[5], num(2)))
		less := must(t)(cut.Dissoc(line[4]))
		gone := must(t)(m.Dissoc(line[4]))
		check(t, more, order, model.Put(plain[2:9], line[0], num(1)), line)
		check(t, other, order, model.Put(plain[2:9], line[5], num(2)), line)
		check(t, less, order, model.Drop(plain[2:9], line[4]), line)
		check(t, gone, order, model.Drop(plain, line[4]), line)
		check(t, cut, order, plain[2:9], line)
		check(t, m, order, plain, line)
	}
}
