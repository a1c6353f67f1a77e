package hset_test

import (
	"fmt"
	"slices"
	"strings"
	"testing"
	"unsafe"

	"spinney/api"
	"spinney/champ"
	"spinney/hset"
	"spinney/model"
	"spinney/sample"
	"spinney/value"
)

func none() api.Value                   { return api.Value{} }
func num(n int64) api.Value             { return sample.Num(n) }
func str(s string) api.Value            { return sample.Str(s) }
func list(items ...api.Value) api.Value { return sample.List(items...) }

// ints are numbers, one by one.
func ints(l ...int64) []api.Value {
	var out []api.Value
	for _, n := range l {
		out = append(out, num(n))
	}
	return out
}

// short is what a failing test shows of something that may be long.
func short(x any) string {
	s := fmt.Sprint(x)
	return s[:min(len(s), 200)]
}

// must is a set that came without an error.
func must(t *testing.T) func(*hset.Set, api.Errno) *hset.Set {
	return func(s *hset.Set, e api.Errno) *hset.Set {
		t.Helper()
		if s == nil || e != api.OK {
			t.Fatalf("no set: %v", e)
		}
		return s
	}
}

func has(l []api.Value, v api.Value) bool {
	return slices.ContainsFunc(l, func(w api.Value) bool { return sample.Same(v, w) })
}

// where are the members of a plain list that are in another one, or those that are not.
func where(l, other []api.Value, in bool) []api.Value {
	var out []api.Value
	for _, v := range l {
		if has(other, v) == in {
			out = append(out, v)
		}
	}
	return out
}

// with is a plain list with a member, each once.
func with(l []api.Value, v api.Value) []api.Value { return append(without(l, v), v) }

func without(l []api.Value, v api.Value) []api.Value { return where(l, []api.Value{v}, false) }

// each is a plain list of the members, each once.
func each(l []api.Value) []api.Value {
	var out []api.Value
	for _, v := range l {
		out = with(out, v)
	}
	return out
}

// check asks a set everything, against a plain list of unlike members.
func check(t *testing.T, s *hset.Set, kind int, plain []api.Value) {
	t.Helper()
	if wrong := model.WrongOfSet(s, kind, plain); s == nil || wrong != "" {
		t.Fatalf("%s is wrong: %s of kind %d, want %s of kind %d", wrong, short(s.Items()), s.Kind(), short(plain), kind)
	}
}

func checkHas(t *testing.T, s *hset.Set, v api.Value, want bool) {
	t.Helper()
	if there, e := s.Has(v); there != want || e != api.OK {
		t.Fatalf("Has(%s): %v, %v, want %v", short(v), there, e, want)
	}
}

// The chapter's example.
func TestExamples(t *testing.T) {
	check(t, must(t)(hset.Of(0, ints(1, 2, 2))), 0, ints(1, 2))
	a, b := must(t)(hset.Of(0, ints(1, 2))), must(t)(hset.Of(0, ints(2, 3)))
	check(t, must(t)(hset.Union(a, b)), 0, ints(1, 2, 3))
	check(t, must(t)(hset.Either(a, b)), 0, ints(1, 3))
	if l := must(t)(hset.Of(32, ints(3, -1, 2, 0))).Items(); !sample.SameAll(l, ints(-1, 0, 2, 3)) {
		t.Errorf("kind 32: %v", l)
	}
	two := must(t)(hset.Of(32, ints(3, -1)))
	if l := two.Shape(); len(l) != 8 || l[0] != (api.Shape{Nodes: 1}) || l[7] != (api.Shape{Depth: 7, Members: 2}) {
		t.Errorf("Shape of two: %v", l)
	}
	one := must(t)(two.Disj(num(3)))
	if l := one.Shape(); !slices.Equal(l, []api.Shape{{Data: 1, Members: 1}}) {
		t.Errorf("Shape of one: %v", l)
	}
}

// 8.1
func TestNew(t *testing.T) {
	for kind := range api.MaxHash + 1 {
		s := must(t)(hset.New(kind))
		check(t, s, kind, nil)
		checkHas(t, s, num(1), false)
	}
	for _, kind := range sample.Beyond(api.MaxHash) {
		if s, e := hset.New(kind); s != nil || e != api.ErrKind {
			t.Errorf("New(%d): %v, %v", kind, s, e)
		}
	}
}

// 8.1
func TestOf(t *testing.T) {
	source := sample.New(1)
	for kind := range api.MaxHash + 1 {
		check(t, must(t)(hset.Of(kind, nil)), kind, nil)
		check(t, must(t)(hset.Of(kind, []api.Value{})), kind, nil)
		check(t, must(t)(hset.Of(kind, ints(7, 7, 7))), kind, ints(7))
		for range 5 {
			l := source.Values(source.Below(80), 2)
			check(t, must(t)(hset.Of(kind, l)), kind, each(l))
		}
	}
}

// step is one change, of a set and of a plain list; all that is told is asked behind it.
func step(t *testing.T, source *sample.Source, kind int, s *hset.Set, plain, stock []api.Value) (*hset.Set, []api.Value) {
	t.Helper()
	v := stock[source.Below(len(stock))]
	if source.Below(2) == 0 {
		s, plain = must(t)(s.Conj(v)), with(plain, v)
	} else {
		s, plain = must(t)(s.Disj(v)), without(plain, v)
	}
	checkHas(t, s, v, has(plain, v))
	check(t, s, kind, plain)
	return s, plain
}

// 8.2, 8.3, 8.6, P3: members come and go, and every version tells for ever what it told.
func TestStepsOfAllKinds(t *testing.T) {
	type version struct {
		s     *hset.Set
		plain []api.Value
	}
	for kind := range api.MaxHash + 1 {
		source := sample.New(uint64(kind))
		stock := append(source.Keys(10), num(0), none(), str(""))
		s := must(t)(hset.New(kind))
		var plain []api.Value
		versions := []version{{s, nil}}
		for range 60 {
			s, plain = step(t, source, kind, s, plain, stock)
			versions = append(versions, version{s, plain})
		}
		for i, v := range versions {
			other := versions[len(versions)-1-i].s
			step(t, source, kind, v.s, v.plain, stock)
			hset.Union(v.s, other)
			hset.Meet(v.s, other)
			hset.Less(v.s, other)
			hset.Either(v.s, other)
			check(t, v.s, kind, v.plain)
		}
		for _, v := range versions {
			check(t, v.s, kind, v.plain)
		}
	}
}

// 8.5, P4: the same members by several ways.
func TestOneForm(t *testing.T) {
	for kind := range api.MaxHash + 1 {
		source := sample.New(uint64(kind))
		all := source.Keys(50)
		kept, passing := all[:30], all[30:]
		whole, gone := must(t)(hset.Of(kind, all)), must(t)(hset.Of(kind, passing))
		stay := must(t)(hset.Of((kind+1)%(api.MaxHash+1), kept))
		early, late := must(t)(hset.Of(kind, kept[:20])), must(t)(hset.Of(5, kept[10:]))
		check(t, hset.Less(whole, gone), kind, kept)
		check(t, hset.Meet(whole, stay), kind, kept)
		check(t, must(t)(hset.Union(early, late)), kind, kept)
		check(t, must(t)(hset.Either(whole, gone)), kind, kept)
		for range 3 {
			check(t, must(t)(hset.Of(kind, sample.Shuffled(source, kept))), kind, kept)
			s := must(t)(hset.New(kind))
			for _, v := range sample.Shuffled(source, slices.Concat(all, all)) {
				s = must(t)(s.Conj(v))
			}
			for _, v := range sample.Shuffled(source, passing) {
				s = must(t)(s.Disj(v))
			}
			check(t, s, kind, kept)
		}
	}
}

// 8.3
func TestAll(t *testing.T) {
	for _, kind := range []int{0, 1, 5, 31, 32, 33, 34, 59, 63} {
		plain := sample.New(3).Keys(30)
		s := must(t)(hset.Of(kind, plain))
		all, want := s.All(), sample.InTrieOrder(kind, plain)
		for n := range len(want) + 1 {
			var got []api.Value
			for v := range all {
				if len(got) == n {
					break
				}
				got = append(got, v)
			}
			if !sample.SameAll(got, want[:n]) {
				t.Fatalf("kind %d: left at %d: %s", kind, n, short(got))
			}
			asked := 0
			all(func(api.Value) bool {
				asked++
				return asked < n
			})
			if asked != max(n, 1) {
				t.Errorf("kind %d: asked %d times, want %d", kind, asked, n)
			}
		}
		outer := 0
		for v := range all {
			s.Disj(v)
			if l := slices.Collect(all); !sample.Same(v, want[outer]) || len(l) != len(want) {
				t.Fatalf("kind %d: %d within %d", kind, len(l), outer)
			}
			outer++
		}
	}
}

// 8.3: Value has value.Set's error.
func TestValueTooLong(t *testing.T) {
	for _, c := range []struct {
		l    []api.Value
		want api.Errno
	}{
		{sample.Numbers(api.MaxParts - 1), api.OK}, {sample.Numbers(api.MaxParts), api.ErrLong}, {sample.Numbers(3000), api.ErrLong},
		{[]api.Value{sample.Nested(api.MaxDeep-1, num(1))}, api.OK}, {[]api.Value{sample.Nested(api.MaxDeep, num(1))}, api.ErrLong},
	} {
		s := must(t)(hset.Of(0, c.l))
		if v, e := s.Value(); e != c.want || e != api.OK && !sample.Same(v, none()) || e == api.OK && v.Kind != api.VSet {
			t.Errorf("Value of %s: %s, %v, want %v", short(c.l), short(v), e, c.want)
		}
	}
}

// checkTwo asks for all that is made of two sets, against plain lists.
func checkTwo(t *testing.T, x, y int, a, b []api.Value) {
	t.Helper()
	s, u := must(t)(hset.Of(x, a)), must(t)(hset.Of(y, b))
	both, left, right := where(a, b, true), where(a, b, false), where(b, a, false)
	check(t, must(t)(hset.Union(s, u)), x, slices.Concat(a, right))
	check(t, hset.Meet(s, u), x, both)
	check(t, hset.Less(s, u), x, left)
	check(t, must(t)(hset.Either(s, u)), x, slices.Concat(left, right))
	if hset.Subset(s, u) != (len(left) == 0) || hset.Subset(u, s) != (len(right) == 0) {
		t.Errorf("Subset of %s and %s: %v, %v", short(a), short(b), hset.Subset(s, u), hset.Subset(u, s))
	}
	if hset.Equal(s, u) != (len(left)+len(right) == 0) {
		t.Errorf("Equal(%s, %s): %v", short(a), short(b), hset.Equal(s, u))
	}
	check(t, s, x, a)
	check(t, u, y, b)
}

// 8.4, R7
func TestTwoSets(t *testing.T) {
	source := sample.New(5)
	for x := range api.MaxHash + 1 {
		for _, y := range []int{x, 0, 32, source.Below(api.MaxHash + 1)} {
			stock := source.Keys(20)
			a, b := sample.Shuffled(source, stock)[:source.Below(20)], sample.Shuffled(source, stock)[:source.Below(20)]
			checkTwo(t, x, y, a, b)
			checkTwo(t, x, y, a, a)
			checkTwo(t, x, y, a, nil)
			checkTwo(t, x, y, nil, a)
			checkTwo(t, x, y, nil, nil)
			checkTwo(t, x, y, stock, a)
			checkTwo(t, x, y, a, stock)
			checkTwo(t, x, y, stock[:10], stock[10:])
			checkTwo(t, x, y, stock[:10], stock[9:11])
			checkTwo(t, x, y, stock[:1], stock[1:2])
			checkTwo(t, x, y, stock[:10], sample.Shuffled(source, stock[:10]))
		}
	}
}

// 8.4: a set with itself.
func TestWithItself(t *testing.T) {
	for _, kind := range []int{0, 3, 32, 60} {
		s := must(t)(hset.Of(kind, ints(1, 2, 3)))
		check(t, must(t)(hset.Union(s, s)), kind, ints(1, 2, 3))
		check(t, hset.Meet(s, s), kind, ints(1, 2, 3))
		check(t, hset.Less(s, s), kind, nil)
		check(t, must(t)(hset.Either(s, s)), kind, nil)
		if !hset.Subset(s, s) || !hset.Equal(s, s) {
			t.Errorf("Subset, Equal of itself")
		}
	}
}

// 8.4
func TestKeys(t *testing.T) {
	for kind := range api.MaxHash + 1 {
		var pairs []api.Pair
		keys := sample.New(uint64(kind)).Keys(30)
		for i, k := range keys {
			pairs = append(pairs, api.Pair{Key: k, Val: list(num(int64(i)), k)})
		}
		m, _ := champ.Of(kind, pairs)
		s := hset.Keys(m)
		check(t, s, kind, keys)
		if !slices.Equal(s.Shape(), m.Shape()) {
			t.Errorf("kind %d: shapes of keys and map: %v, %v", kind, s.Shape(), m.Shape())
		}
		check(t, must(t)(s.Disj(keys[0])), kind, keys[1:])
		if l := m.Pairs(); len(l) != 30 || !has([]api.Value{l[0].Val.Items[1]}, l[0].Key) {
			t.Errorf("kind %d: the map has changed: %s", kind, short(l))
		}
		empty, _ := champ.New(kind)
		check(t, hset.Keys(empty), kind, nil)
	}
	check(t, hset.Keys(nil), 0, nil)
}

// laws are pairs of sets that the laws say are the same, by names.
func laws(t *testing.T, a, b, c *hset.Set) map[string][2]*hset.Set {
	union := func(a, b *hset.Set) *hset.Set { return must(t)(hset.Union(a, b)) }
	either := func(a, b *hset.Set) *hset.Set { return must(t)(hset.Either(a, b)) }
	meet, less := hset.Meet, hset.Less
	return map[string][2]*hset.Set{
		"Union turned about":      {union(a, b), union(b, a)},
		"Meet turned about":       {meet(a, b), meet(b, a)},
		"Either turned about":     {either(a, b), either(b, a)},
		"Union associates":        {union(union(a, b), c), union(a, union(b, c))},
		"Meet associates":         {meet(meet(a, b), c), meet(a, meet(b, c))},
		"Either associates":       {either(either(a, b), c), either(a, either(b, c))},
		"Meet goes over Union":    {meet(a, union(b, c)), union(meet(a, b), meet(a, c))},
		"Union goes over Meet":    {union(a, meet(b, c)), meet(union(a, b), union(a, c))},
		"Less of Union":           {less(a, union(b, c)), meet(less(a, b), less(a, c))},
		"Less of Union, first":    {less(union(a, b), c), union(less(a, c), less(b, c))},
		"Either by the other two": {either(a, b), less(union(a, b), meet(a, b))},
	}
}

// 8.7, P9
func TestLaws(t *testing.T) {
	source := sample.New(8)
	for range 300 {
		var sets [3]*hset.Set
		kind := source.Below(api.MaxHash + 1)
		mixed := source.Below(2) == 0
		for i := range sets {
			if mixed {
				kind = source.Below(api.MaxHash + 1)
			}
			sets[i] = must(t)(hset.Of(kind, source.Values(source.Below(12), 1)))
		}
		a, b, c := sets[0], sets[1], sets[2]
		for name, two := range laws(t, a, b, c) {
			if !hset.Equal(two[0], two[1]) {
				t.Errorf("%s: %v, %v", name, two[0].Items(), two[1].Items())
			}
			// What is told is of the first one's kind; alike kinds have one form.
			if two[0].Kind() == two[1].Kind() && (!sample.SameAll(two[0].Items(), two[1].Items()) || !slices.Equal(two[0].Shape(), two[1].Shape())) {
				t.Errorf("%s: %v, %v", name, two[0].Shape(), two[1].Shape())
			}
			if two[0].Kind() != a.Kind() || !mixed && two[1].Kind() != a.Kind() {
				t.Errorf("%s: kinds %d, %d of %d", name, two[0].Kind(), two[1].Kind(), a.Kind())
			}
		}
		if hset.Equal(a, b) != (hset.Subset(a, b) && hset.Subset(b, a)) || !hset.Subset(hset.Meet(a, b), c) && hset.Subset(a, c) {
			t.Errorf("Subset, Equal: %v, %v", a.Items(), b.Items())
		}
	}
}

// 8.1, 8.2, 8.4: MaxLen members, and one more.
func TestMaxLen(t *testing.T) {
	for _, kind := range []int{0, 1, 32, 50} {
		l := sample.Numbers(api.MaxLen)
		full := must(t)(hset.Of(kind, l))
		check(t, full, kind, l)
		if s, e := full.Conj(num(-1)); s != nil || e != api.ErrLong {
			t.Errorf("kind %d: one more: %v", kind, e)
		}
		check(t, must(t)(full.Conj(num(7))), kind, l)
		fewer := must(t)(full.Disj(num(7)))
		other := must(t)(fewer.Conj(num(-1)))
		if s, e := other.Conj(num(7)); s != nil || e != api.ErrLong || fewer.Len() != api.MaxLen-1 || other.Len() != api.MaxLen {
			t.Errorf("kind %d: %d, %d members, one more: %v", kind, fewer.Len(), other.Len(), e)
		}
		check(t, full, kind, l)
	}
}

func TestMaxLenOfTwo(t *testing.T) {
	numbers := func(from, n int64) []api.Value {
		var out []api.Value
		for i := range n {
			out = append(out, num(from+i))
		}
		return out
	}
	for _, kind := range []int{0, 32} {
		full := must(t)(hset.Of(kind, numbers(0, api.MaxLen)))
		beside := must(t)(hset.Of(5, numbers(-1, 2)))
		half := must(t)(hset.Of(kind, numbers(0, api.MaxLen/2)))
		rest := must(t)(hset.Of(kind, numbers(api.MaxLen/2, api.MaxLen/2)))
		over := must(t)(hset.Of(kind, numbers(api.MaxLen/2, api.MaxLen/2+1)))
		shifted := must(t)(hset.Of(kind, numbers(api.MaxLen/2, api.MaxLen)))
		for _, two := range [][2]*hset.Set{{full, beside}, {beside, full}, {half, over}, {over, half}, {full, shifted}} {
			if s, e := hset.Union(two[0], two[1]); s != nil || e != api.ErrLong {
				t.Errorf("kind %d: Union of %d and %d: %v", kind, two[0].Len(), two[1].Len(), e)
			}
		}
		for _, two := range [][2]*hset.Set{{half, over}, {over, half}} {
			if s, e := hset.Either(two[0], two[1]); s != nil || e != api.ErrLong {
				t.Errorf("kind %d: Either of %d and %d: %v", kind, two[0].Len(), two[1].Len(), e)
			}
		}
		// One goes and one comes: never more than MaxLen in the end.
		swapped := must(t)(hset.Either(full, beside))
		checkHas(t, swapped, num(-1), true)
		checkHas(t, swapped, num(0), false)
		for _, c := range []struct {
			s    *hset.Set
			want int
		}{
			{swapped, api.MaxLen}, {must(t)(hset.Union(half, rest)), api.MaxLen}, {must(t)(hset.Union(full, half)), api.MaxLen}, {must(t)(hset.Union(full, full)), api.MaxLen},
			{must(t)(hset.Either(half, rest)), api.MaxLen}, {must(t)(hset.Either(full, full)), 0}, {must(t)(hset.Either(full, shifted)), api.MaxLen}, {hset.Meet(full, shifted), api.MaxLen / 2}, {hset.Less(full, shifted), api.MaxLen / 2},
		} {
			if c.s.Len() != c.want {
				t.Errorf("kind %d: %d members, want %d", kind, c.s.Len(), c.want)
			}
		}
		if !hset.Equal(must(t)(hset.Union(half, rest)), full) || !hset.Subset(half, full) || hset.Subset(over, full) || hset.Equal(full, shifted) {
			t.Errorf("kind %d: Subset, Equal of many", kind)
		}
	}
}

// R6: nil sets are empty ones of kind 0, and so are zero ones; what is made of them is not nil.
func TestNilSets(t *testing.T) {
	some := must(t)(hset.Of(7, ints(1, 2)))
	for _, s := range []*hset.Set{nil, {}} {
		check(t, must(t)(s.Conj(num(1))), 0, ints(1))
		check(t, must(t)(s.Disj(num(1))), 0, nil)
		checkHas(t, s, num(1), false)
		if s.Kind() != 0 || s.Len() != 0 || len(s.Items()) != 0 || len(slices.Collect(s.All())) != 0 || !slices.Equal(s.Shape(), []api.Shape{{}}) {
			t.Errorf("%v", s)
		}
		if v, e := s.Value(); !sample.Same(v, sample.Set()) || e != api.OK {
			t.Errorf("Value: %v, %v", v, e)
		}
		check(t, must(t)(hset.Union(s, some)), 0, ints(1, 2))
		check(t, must(t)(hset.Union(some, s)), 7, ints(1, 2))
		check(t, must(t)(hset.Either(s, some)), 0, ints(1, 2))
		check(t, must(t)(hset.Either(some, s)), 7, ints(1, 2))
		check(t, hset.Meet(s, some), 0, nil)
		check(t, hset.Meet(some, s), 7, nil)
		check(t, hset.Less(s, some), 0, nil)
		check(t, hset.Less(some, s), 7, ints(1, 2))
		for _, other := range []*hset.Set{nil, {}} {
			check(t, must(t)(hset.Union(s, other)), 0, nil)
			check(t, must(t)(hset.Either(s, other)), 0, nil)
			check(t, hset.Meet(s, other), 0, nil)
			check(t, hset.Less(s, other), 0, nil)
			if !hset.Equal(s, other) || !hset.Subset(s, other) {
				t.Errorf("empty sets are not the same")
			}
		}
		if hset.Equal(s, some) || hset.Equal(some, s) || !hset.Subset(s, some) || hset.Subset(some, s) {
			t.Errorf("an empty set is some other")
		}
		for _, w := range sample.Wrongs() {
			checkSetErrors(t, s, w)
		}
	}
}

// checkSetErrors asks for what a set answers to a value that is not right.
func checkSetErrors(t *testing.T, s *hset.Set, w api.Value) {
	t.Helper()
	if there, e := s.Has(w); there || e != api.ErrValue {
		t.Errorf("Has(%s): %v, %v", short(w), there, e)
	}
	if u, e := s.Conj(w); u != nil || e != api.ErrValue {
		t.Errorf("Conj(%s): %v", short(w), e)
	}
	if u, e := s.Disj(w); u != nil || e != api.ErrValue {
		t.Errorf("Disj(%s): %v", short(w), e)
	}
}

// R1, R4: values that are not right; of a full set they come ahead of ErrLong.
func TestWrongValues(t *testing.T) {
	full := must(t)(hset.Of(5, sample.Numbers(api.MaxLen)))
	for _, w := range sample.Wrongs() {
		for _, kind := range []int{0, 5, 32, 63} {
			s := must(t)(hset.Of(kind, ints(1, 2)))
			checkSetErrors(t, s, w)
			check(t, s, kind, ints(1, 2))
			for _, l := range [][]api.Value{{w}, {num(1), num(2), w}, {w, num(1)}} {
				if s, e := hset.Of(kind, l); s != nil || e != api.ErrValue {
					t.Errorf("Of(%d, %s): %v", kind, short(l), e)
				}
			}
		}
		checkSetErrors(t, full, w)
	}
}

// R1: the kind ahead of the list, its length ahead of its members.
func TestWhichErrorComesFirst(t *testing.T) {
	long := slices.Repeat(ints(1), api.MaxLen+1)
	wrong := []api.Value{sample.Bool(2)}
	for _, kind := range sample.Beyond(api.MaxHash) {
		for _, l := range [][]api.Value{nil, {}, ints(1), wrong, long} {
			if s, e := hset.Of(kind, l); s != nil || e != api.ErrKind {
				t.Errorf("Of(%d, %s): %v", kind, short(l), e)
			}
		}
	}
	for _, l := range [][]api.Value{long, slices.Concat(wrong, long), slices.Concat(long[1:], wrong)} {
		if s, e := hset.Of(0, l); s != nil || e != api.ErrLong {
			t.Errorf("Of(0, %s): %v", short(l), e)
		}
	}
	if s, e := hset.Of(0, slices.Concat(long[2:], wrong)); s != nil || e != api.ErrValue {
		t.Errorf("MaxLen members, the last one wrong: %v", e)
	}
	check(t, must(t)(hset.Of(0, long[1:])), 0, ints(1))
}

// nested are members that hold lists.
func nested() []api.Value {
	return []api.Value{list(num(1), list(num(2))), sample.Map(num(1), list(num(5))), sample.Set(num(3), list(num(4)))}
}

// R3: what is handed in stays as it is, and is not kept.
func TestArgumentsStay(t *testing.T) {
	for _, kind := range []int{0, 3, 32, 40} {
		l := sample.RoomyAll(nested())
		s := must(t)(hset.Of(kind, l))
		u := must(t)(hset.New(kind))
		for _, v := range l {
			u = must(t)(u.Conj(v))
			u = must(t)(u.Conj(v))
			u.Has(v)
		}
		less := must(t)(u.Disj(l[0]))
		if !sample.SameAll(l, nested()) || !sample.RoomKept(l) {
			t.Errorf("kind %d: changed: %v", kind, l)
		}
		sample.Spoil(l)
		check(t, s, kind, nested())
		check(t, u, kind, nested())
		check(t, less, kind, nested()[1:])
	}
}

// R3: writing over an answer changes nothing that is told, of that set, of another version, of what was made of two.
func TestAnswersAreNew(t *testing.T) {
	for _, kind := range []int{0, 3, 32, 40} {
		s := must(t)(hset.Of(kind, nested()))
		other := must(t)(s.Conj(num(1)))
		m, _ := champ.Of(kind, []api.Pair{{Key: nested()[0], Val: nested()[1]}})
		keys := hset.Keys(m)
		made := []*hset.Set{s, other, must(t)(hset.Union(s, other)), hset.Meet(s, other), must(t)(hset.Either(s, must(t)(hset.New(0)))), hset.Less(s, nil), keys}
		first, again := s.Items(), s.Items()
		v, _ := s.Value()
		for _, told := range made {
			sample.Spoil(told.Items())
			for v := range told.All() {
				sample.Spoil(v.Items)
			}
			v, _ := told.Value()
			sample.Spoil(v.Items)
			shape := told.Shape()
			clear(shape[:cap(shape)])
		}
		sample.Spoil(again)
		for i, told := range made[:6] {
			want := nested()
			if i == 1 || i == 2 {
				want = append(want, num(1))
			}
			check(t, told, kind, want)
		}
		check(t, keys, kind, nested()[:1])
		if l := m.Pairs(); !sample.Same(l[0].Key, nested()[0]) || !sample.Same(l[0].Val, nested()[1]) {
			t.Errorf("kind %d: the map shares memory: %v", kind, l)
		}
		if want, _ := value.Set(nested()); !sample.SameAll(first, sample.InTrieOrder(kind, nested())) || !sample.Same(v, want) {
			t.Errorf("kind %d: answers share memory: %v, %v", kind, first, v)
		}
	}
}

// R3
func TestTextsAreNew(t *testing.T) {
	long := strings.Repeat("a", api.MaxText)
	seen := []*byte{unsafe.StringData(long)}
	look := func(v api.Value) {
		at := unsafe.StringData(v.Text)
		if v.Text != long || slices.Contains(seen, at) {
			t.Errorf("the text is not new memory: %q", v.Text)
		}
		seen = append(seen, at)
	}
	made := must(t)(hset.Of(0, []api.Value{str(long)}))
	put := must(t)(must(t)(hset.New(0)).Conj(str(long)))
	for _, told := range []*hset.Set{made, put, hset.Meet(made, put)} {
		for range 2 {
			look(told.Items()[0])
			for v := range told.All() {
				look(v)
			}
			whole, _ := told.Value()
			look(whole.Items[0])
		}
	}
}

// R2: of members that differ in nil and empty lists alone there is one.
func TestNilAndEmptyLists(t *testing.T) {
	for _, v := range []api.Value{{Kind: api.VList}, {Kind: api.VSet}, {Kind: api.VMap}, {}, num(3), str("a")} {
		w := v
		w.Items = []api.Value{}
		for _, kind := range []int{0, 32} {
			s := must(t)(hset.Of(kind, []api.Value{v, w}))
			check(t, s, kind, []api.Value{v})
			checkHas(t, s, w, true)
			check(t, must(t)(s.Conj(w)), kind, []api.Value{v})
			check(t, must(t)(s.Disj(w)), kind, nil)
		}
	}
}
