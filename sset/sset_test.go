package sset_test

import (
	"fmt"
	"slices"
	"testing"

	"spinney/api"
	"spinney/hash"
	"spinney/hset"
	"spinney/model"
	"spinney/sample"
	"spinney/sset"
	"spinney/value"
)

func none() api.Value                   { return api.Value{} }
func num(n int64) api.Value             { return sample.Num(n) }
func str(s string) api.Value            { return sample.Str(s) }
func list(items ...api.Value) api.Value { return sample.List(items...) }
func lines() [][]api.Value              { return sample.Lines() }

// ints are numbers, one by one.
func ints(l ...int64) []api.Value {
	var out []api.Value
	for _, n := range l {
		out = append(out, num(n))
	}
	return out
}

// numbers are so many numbers from one on.
func numbers(from, n int) []api.Value {
	var out []api.Value
	for i := range n {
		out = append(out, num(int64(from+i)))
	}
	return out
}

// reversed is a list the other way round.
func reversed[T any](l []T) []T {
	out := slices.Clone(l)
	slices.Reverse(out)
	return out
}

// short is what a failing test shows of something that may be long.
func short(x any) string {
	s := fmt.Sprint(x)
	return s[:min(len(s), 200)]
}

// must is a set that came without an error.
func must(t *testing.T) func(*sset.Set, api.Errno) *sset.Set {
	return func(s *sset.Set, e api.Errno) *sset.Set {
		t.Helper()
		if s == nil || e != api.OK {
			t.Fatalf("no set: %v", e)
		}
		return s
	}
}

// of is a set of members.
func of(t *testing.T, order int, l []api.Value) *sset.Set {
	t.Helper()
	return must(t)(sset.Of(order, l))
}

// refused is for what must have been no set, but an error.
func refused(t *testing.T, want api.Errno) func(*sset.Set, api.Errno) {
	return func(s *sset.Set, e api.Errno) {
		t.Helper()
		if s != nil || e != want {
			t.Fatalf("%v, want %v", e, want)
		}
	}
}

func has(l []api.Value, v api.Value) bool {
	return slices.ContainsFunc(l, func(w api.Value) bool { return sample.Same(v, w) })
}

// where are the members of a plain list that are in another one, or those that are not.
func where(l, other []api.Value, in bool) []api.Value {
	var out []api.Value
	for _, v := range l {
		if has(other, v) == in {
			out = append(out, v)
		}
	}
	return out
}

// with is a plain list with a member, each once.
func with(l []api.Value, v api.Value) []api.Value { return append(without(l, v), v) }

func without(l []api.Value, v api.Value) []api.Value { return where(l, []api.Value{v}, false) }

// each is a plain list of the members, each once.
func each(l []api.Value) []api.Value {
	var out []api.Value
	for _, v := range l {
		out = with(out, v)
	}
	return out
}

// check asks a set everything, against a plain list of unlike members.
func check(t *testing.T, s *sset.Set, order int, plain []api.Value) {
	t.Helper()
	if wrong := model.WrongOfSortedSet(s, order, plain); s == nil || wrong != "" {
		t.Fatalf("%s is wrong: %s of order %d, %d high, want %s of order %d", wrong, short(s.Items()), s.Order(), s.Height(), short(plain), order)
	}
}

func checkHas(t *testing.T, s *sset.Set, v api.Value, want bool) {
	t.Helper()
	if there, e := s.Has(v); there != want || e != api.OK {
		t.Fatalf("Has(%s): %v, %v, want %v", short(v), there, e, want)
	}
}

func checkRank(t *testing.T, s *sset.Set, v api.Value, want int) {
	t.Helper()
	if n, e := s.Rank(v); n != want || e != api.OK {
		t.Fatalf("Rank(%s): %d, %v, want %d", short(v), n, e, want)
	}
}

// checkFlat asks for the words of chapter 14: a height of at most twice the least h for which 2^h is above the number of members.
func checkFlat(t *testing.T, s *sset.Set) {
	t.Helper()
	h := 0
	for 1<<h <= s.Len() {
		h++
	}
	if s.Height() < h || s.Height() > 2*h || !model.FlatFits(s.Len(), s.Height()) {
		t.Fatalf("%d members, %d high", s.Len(), s.Height())
	}
}

// checkItems asks for members in the places that were worked out by hand.
func checkItems(t *testing.T, s *sset.Set, want []api.Value) {
	t.Helper()
	if l := s.Items(); !sample.SameAll(l, want) {
		t.Fatalf("Items: %s, want %s", short(l), short(want))
	}
}

// The chapter's examples.
func TestExamples(t *testing.T) {
	s := of(t, 5, ints(-2, 1, 0))
	checkItems(t, s, ints(0, 1, -2))
	checkRank(t, s, num(-1), 1)
	checkItems(t, must(t)(of(t, 0, ints(0, 1, 2)).Between(num(0), num(1))), ints(0, 1))
}

// 16.1
func TestNew(t *testing.T) {
	for order := range api.MaxOrder + 1 {
		s := must(t)(sset.New(order))
		check(t, s, order, nil)
		checkHas(t, s, num(1), false)
	}
	for _, order := range sample.Beyond(api.MaxOrder) {
		refused(t, api.ErrKind)(sset.New(order))
	}
}

// 16.1, 16.3: each order by hand, whichever way the set was made.
func TestOrdersByHand(t *testing.T) {
	for order, line := range lines() {
		s := sample.New(uint64(order))
		one := must(t)(sset.New(order))
		for _, v := range sample.Shuffled(s, line) {
			one = must(t)(one.Conj(v))
		}
		both := must(t)(sset.Union(of(t, order, line[5:]), of(t, 0, reversed(line[:7]))))
		for _, made := range []*sset.Set{of(t, order, line), of(t, order, reversed(line)), of(t, order, sample.Shuffled(s, line)), one, both} {
			checkItems(t, made, line)
			check(t, made, order, line)
		}
	}
}

// 16.1: members that stand twice, and more often.
func TestOf(t *testing.T) {
	source := sample.New(1)
	for order := range api.MaxOrder + 1 {
		check(t, of(t, order, nil), order, nil)
		check(t, of(t, order, []api.Value{}), order, nil)
		check(t, of(t, order, ints(7)), order, ints(7))
		check(t, of(t, order, ints(7, 7, 7)), order, ints(7))
		check(t, of(t, order, ints(2, 1, 2, 3, 1)), order, ints(1, 2, 3))
		for range 30 {
			l := source.Values(source.Below(80), 2)
			check(t, of(t, order, l), order, each(l))
		}
	}
}

// version is a set and what it told when it was made.
type version struct {
	s     *sset.Set
	plain []api.Value
}

// changed is another version, by one of the set's own calls.
func (r version) changed(t *testing.T, source *sample.Source, stock []api.Value) version {
	t.Helper()
	v := stock[source.Below(len(stock))]
	if source.Below(2) == 0 {
		more := must(t)(r.s.Conj(v))
		checkHas(t, more, v, true)
		return version{more, with(r.plain, v)}
	}
	less := must(t)(r.s.Disj(v))
	checkHas(t, less, v, false)
	return version{less, without(r.plain, v)}
}

// 16.2, 16.3, 16.6, P2, P3: members come and go, of any older version, and every version tells for ever what it told.
func TestVersions(t *testing.T) {
	for order, line := range lines() {
		for seed := range uint64(3) {
			source := sample.New(seed)
			stock := each(slices.Concat(line, source.Keys(15)))
			now := version{must(t)(sset.New(order)), nil}
			versions := []version{now}
			for turn := range 120 {
				if turn%3 == 0 {
					now = versions[source.Below(len(versions))]
				}
				now = now.changed(t, source, stock)
				check(t, now.s, order, now.plain)
				versions = append(versions, now)
			}
			for i, v := range versions {
				other := versions[len(versions)-1-i].s
				sset.Union(v.s, other)
				sset.Meet(v.s, other)
				sset.Less(v.s, other)
				v.s.Between(line[1], line[4])
			}
			for _, v := range versions {
				check(t, v.s, order, v.plain)
			}
		}
	}
}

// 16.6, P6: long chains of members that come and go, with many there and with few.
func TestLongChains(t *testing.T) {
	for order := range api.MaxOrder + 1 {
		for _, most := range []int{5, 60, 1500} {
			source := sample.New(uint64(most))
			s := must(t)(sset.New(order))
			there := make(map[int64]int)
			for turn := range 3000 {
				v := int64(source.Below(most))
				// Phases in which more come than go, and the other way round.
				if source.Below(4) < 1+turn/750%2*2 {
					s = must(t)(s.Conj(num(v)))
					there[v] = turn
				} else {
					s = must(t)(s.Disj(num(v)))
					delete(there, v)
				}
				if s.Len() != len(there) {
					t.Fatalf("order %d: %d members, want %d", order, s.Len(), len(there))
				}
				checkFlat(t, s)
			}
			var plain []api.Value
			for v := range there {
				plain = append(plain, num(v))
			}
			check(t, s, order, plain)
		}
	}
}

// 16.2, 16.6: put in and taken out rising and falling.
func TestInAndOut(t *testing.T) {
	for order := range api.MaxOrder + 1 {
		rising := model.InLine(order, sample.Numbers(600))
		for _, in := range [][]api.Value{rising, reversed(rising)} {
			s := must(t)(sset.New(order))
			for _, v := range in {
				s = must(t)(s.Conj(v))
				checkFlat(t, s)
			}
			check(t, s, order, rising)
			for i, v := range rising {
				s = must(t)(s.Disj(v))
				checkFlat(t, s)
				if i%100 == 0 {
					check(t, s, order, rising[i+1:])
				}
			}
			check(t, s, order, nil)
		}
	}
}

// 16.2: a member that is there comes again, one that is not there goes.
func TestNothingChanges(t *testing.T) {
	for order := range api.MaxOrder + 1 {
		s := of(t, order, ints(1, 2, 3))
		for _, v := range ints(1, 2, 3) {
			check(t, must(t)(s.Conj(v)), order, ints(1, 2, 3))
		}
		for _, v := range []api.Value{num(4), num(0), none(), str("1"), list(num(1)), num(-1), sample.Bool(1)} {
			checkHas(t, s, v, false)
			check(t, must(t)(s.Disj(v)), order, ints(1, 2, 3))
			check(t, must(t)(must(t)(sset.New(order)).Disj(v)), order, nil)
		}
		check(t, s, order, ints(1, 2, 3))
	}
}

// 16.3: an iterator is gone over again, left at each place, gone over within itself, and outlives what is made of its set.
func TestAll(t *testing.T) {
	for order := range api.MaxOrder + 1 {
		plain := sample.New(3).Keys(30)
		s := of(t, order, plain)
		all, want := s.All(), model.InLine(order, plain)
		for n := range len(want) + 1 {
			var got []api.Value
			for v := range all {
				if len(got) == n {
					break
				}
				got = append(got, v)
			}
			if !sample.SameAll(got, want[:n]) {
				t.Fatalf("order %d: left at %d: %s", order, n, short(got))
			}
			asked := 0
			all(func(api.Value) bool {
				asked++
				return asked < n
			})
			if asked != max(n, 1) {
				t.Errorf("order %d: asked %d times, want %d", order, asked, n)
			}
		}
		outer := 0
		for v := range all {
			s.Disj(v)
			if l := slices.Collect(all); !sample.Same(v, want[outer]) || len(l) != len(want) {
				t.Fatalf("order %d: %d within %d", order, len(l), outer)
			}
			outer++
		}
		if outer != len(want) {
			t.Errorf("order %d: gone over %d", order, outer)
		}
		for range must(t)(sset.New(order)).All() {
			t.Errorf("order %d: a member of none", order)
		}
	}
}

// 16.3: Value has value.Set's error.
func TestValueTooLong(t *testing.T) {
	for _, c := range []struct {
		l    []api.Value
		want api.Errno
	}{
		{nil, api.OK}, {sample.Numbers(api.MaxParts - 1), api.OK}, {sample.Numbers(api.MaxParts), api.ErrLong}, {sample.Numbers(3000), api.ErrLong},
		{[]api.Value{sample.Nested(api.MaxDeep-1, num(1))}, api.OK}, {[]api.Value{sample.Nested(api.MaxDeep, num(1))}, api.ErrLong},
	} {
		for order := range api.MaxOrder + 1 {
			s := of(t, order, c.l)
			if v, e := s.Value(); e != c.want || e != api.OK && !sample.Same(v, none()) || e == api.OK && v.Kind != api.VSet {
				t.Errorf("order %d: Value of %s: %s, %v, want %v", order, short(c.l), short(v), e, c.want)
			}
		}
	}
}

// P5: a set's Value is one, and has one hash, whatever it is kept in and however it was made.
func TestOneHash(t *testing.T) {
	source := sample.New(5)
	for range 60 {
		l := source.Values(source.Below(30), 2)
		want, _ := value.Set(l)
		full, _ := hash.Full(want)
		same := func(v api.Value, e api.Errno) {
			t.Helper()
			if h, wrong := hash.Full(v); e != api.OK || wrong != api.OK || h != full || !sample.Same(v, want) {
				t.Fatalf("%s: %d, %v, want %s: %d", short(v), h, e, short(want), full)
			}
		}
		hashed, _ := hset.Of(source.Below(api.MaxHash+1), l)
		same(hashed.Value())
		for order := range api.MaxOrder + 1 {
			s := must(t)(sset.New(order))
			for _, v := range sample.Shuffled(source, l) {
				s = must(t)(s.Conj(v))
			}
			same(of(t, order, l).Value())
			same(s.Value())
		}
	}
	// DOC.md's example 1: the hash of #{1 2 3} is the same whichever order it was written in.
	plain, _ := hash.Full(sample.Set(ints(1, 2, 3)...))
	for order := range api.MaxOrder + 1 {
		v, _ := of(t, order, ints(3, 1, 2)).Value()
		if h, _ := hash.Full(v); h != plain || plain != 439094965 {
			t.Errorf("order %d: %d, want %d", order, h, plain)
		}
	}
}

// 16.3: red-black trees of so few members have one height alone, whatever their shape.
func TestHeight(t *testing.T) {
	for order := range api.MaxOrder + 1 {
		for n, want := range []int{0, 1, 2, 2, 3, 3} {
			if s := of(t, order, sample.Numbers(n)); s.Height() != want {
				t.Errorf("order %d: %d members, %d high, want %d", order, n, s.Height(), want)
			}
		}
	}
}
