package value_test

import (
	"fmt"
	"reflect"
	"slices"
	"strings"
	"testing"
	"unsafe"

	"spinney/api"
	"spinney/sample"
	"spinney/value"
)

func num(n int64) api.Value                   { return api.Value{Kind: api.VInt, Num: n} }
func boolean(n int64) api.Value               { return api.Value{Kind: api.VBool, Num: n} }
func str(s string) api.Value                  { return api.Value{Kind: api.VStr, Text: s} }
func list(items ...api.Value) api.Value       { return api.Value{Kind: api.VList, Items: items} }
func set(items ...api.Value) api.Value        { return api.Value{Kind: api.VSet, Items: items} }
func dict(items ...api.Value) api.Value       { return api.Value{Kind: api.VMap, Items: items} }
func pair(key, val api.Value) api.Pair        { return api.Pair{Key: key, Val: val} }
func same(a, b api.Value) bool                { return sample.Same(a, b) }
func sameAll(a, b []api.Value) bool           { return sample.SameAll(a, b) }
func zero(v api.Value) bool                   { return reflect.DeepEqual(v, api.Value{}) }
func nested(n int, v api.Value) api.Value     { return wrapped(n, api.VList, v) }
func repeated(n int, v api.Value) []api.Value { return slices.Repeat([]api.Value{v}, n) }

func wrapped(n, kind int, v api.Value) api.Value {
	for range n {
		v = api.Value{Kind: kind, Items: []api.Value{v}}
	}
	return v
}

// numbers are n numbers, rising.
func numbers(n int) []api.Value {
	out := make([]api.Value, n)
	for i := range out {
		out[i] = num(int64(i))
	}
	return out
}

// wrongs are values that are not right, each for one reason alone.
func wrongs() []api.Value {
	return []api.Value{
		{Kind: -1}, {Kind: 7}, {Kind: 1 << 40},
		{Num: 1}, boolean(2), boolean(-1),
		{Kind: api.VStr, Num: 1}, {Kind: api.VList, Num: 1}, {Kind: api.VSet, Num: -1}, {Kind: api.VMap, Num: 1},
		{Text: "a"}, {Kind: api.VBool, Text: "a"}, {Kind: api.VInt, Text: "a"}, {Kind: api.VList, Text: "a"}, {Kind: api.VSet, Text: "a"}, {Kind: api.VMap, Text: "a"},
		{Items: numbers(1)}, {Kind: api.VBool, Items: numbers(1)}, {Kind: api.VInt, Items: numbers(1)}, {Kind: api.VStr, Items: numbers(1)},
		str(strings.Repeat("a", api.MaxText+1)), str(strings.Repeat("é", api.MaxText/2) + "a"),
		str("\xff"), str("a\x80"), str("\xc3"), str("\xe2\x82"), str("\xf0\x9d\x84"), str("\xc0\x80"), str("\xe0\x80\x80"),
		str("\xed\xa0\x80"), str("\xed\xbf\xbf"), str("\xf4\x90\x80\x80"), str("\uFFFD\xff"),
		set(num(2), num(1)), set(num(1), num(1)), set(num(0), num(2), num(1)), set(list(), api.Value{Kind: api.VList, Items: []api.Value{}}),
		dict(num(1)), dict(num(1), num(2), num(3)), dict(num(2), num(0), num(1), num(0)), dict(num(1), num(0), num(1), num(5)),
		list(num(1), boolean(2)), set(num(1), str("\xff")), dict(num(1), list(set(num(2), num(1)))), dict(boolean(2), num(1)),
		nested(api.MaxDeep+1, num(1)), wrapped(api.MaxDeep+1, api.VSet, num(1)), nested(1, nested(api.MaxDeep, list())),
		list(numbers(api.MaxParts)...), set(numbers(api.MaxParts)...), dict(numbers(api.MaxParts)...),
		list(list(numbers(500)...), list(numbers(522)...)),
	}
}

// rights are right values, those at the limits among them.
func rights() []api.Value {
	return []api.Value{
		{}, {Items: []api.Value{}}, boolean(0), boolean(1), num(0), num(-1 << 63), num(1<<63 - 1),
		str(""), str("a"), str("\x00"), str("\uFFFD"), str("a\uFFFDb"), str("\uD7FF\uE000"), str("\U0010FFFF"), str(strings.Repeat("a", api.MaxText)), str(strings.Repeat("é", api.MaxText/2)),
		list(), {Kind: api.VList, Items: []api.Value{}}, set(), {Kind: api.VSet, Items: []api.Value{}}, dict(), {Kind: api.VMap, Items: []api.Value{}},
		list(num(2), num(1), num(1)), set(num(1), num(2)), set(api.Value{}, boolean(1), num(-5), str("z")), dict(num(1), num(9), num(2), num(3)), dict(num(1), num(0), num(2), num(0)),
		nested(api.MaxDeep, num(1)), nested(api.MaxDeep, list()), wrapped(api.MaxDeep, api.VSet, dict()),
		list(numbers(api.MaxParts - 1)...), set(numbers(api.MaxParts - 1)...), dict(numbers(api.MaxParts - 2)...),
		list(list(numbers(500)...), list(numbers(521)...)),
	}
}

func TestCheckRight(t *testing.T) {
	for i, v := range rights() {
		if e := value.Check(v); e != api.OK {
			t.Errorf("%d: Check(%s): %v", i, short(v), e)
		}
	}
}

func TestCheckWrong(t *testing.T) {
	for i, v := range wrongs() {
		if e := value.Check(v); e != api.ErrValue {
			t.Errorf("%d: Check(%s): %v", i, short(v), e)
		}
	}
}

func TestFarBeyondLimits(t *testing.T) {
	deep := nested(1<<16, num(1))
	wide := list(repeated(1<<20, num(1))...)
	shared := num(1)
	for range api.MaxDeep {
		shared = list(repeated(1000, shared)...)
	}
	for i, v := range []api.Value{deep, wide, shared} {
		if e := value.Check(v); e != api.ErrValue {
			t.Errorf("%d: Check: %v", i, e)
		}
	}
	if c := value.Compare(deep, nested(1<<16, num(2))); c != -1 {
		t.Errorf("Compare of deep values: %d", c)
	}
	if !value.Equal(wide, list(repeated(1<<20, num(1))...)) {
		t.Errorf("Equal of wide values")
	}
}

// line are values, rising.
func line() []api.Value {
	return []api.Value{
		{Kind: -1}, {}, boolean(0), boolean(1), num(-1 << 63), num(-1), num(0), num(1), num(1<<63 - 1),
		str(""), str("\x00"), str("A"), str("a"), str("a\x00"), str("aa"), str("b"), str("é"), str("\uFFFD"), str("𝄞"), str("\xff"),
		list(), list(api.Value{}), list(num(1)), list(num(1), num(1)), list(num(1), num(2)), list(num(2)), list(list()), list(set()),
		set(), set(num(1)), set(num(1), num(3)), set(num(2)),
		dict(), dict(num(1), num(1)), dict(num(1), num(1), num(2), num(0)), dict(num(1), num(2)), dict(num(2), num(0)), {Kind: 7},
	}
}

func TestCompareLine(t *testing.T) {
	l := line()
	for i, a := range l {
		for k, b := range l {
			want := 0
			if i < k {
				want = -1
			} else if i > k {
				want = 1
			}
			if c := value.Compare(a, b); c != want {
				t.Errorf("Compare(%v, %v): %d", a, b, c)
			}
			if value.Equal(a, b) != (i == k) {
				t.Errorf("Equal(%v, %v)", a, b)
			}
		}
	}
}

func TestCompareLooksAtWhatKindsHave(t *testing.T) {
	for kind := -1; kind <= 7; kind++ {
		a, b := api.Value{Kind: kind}, api.Value{Kind: kind, Num: 1}
		if got, want := value.Equal(a, b), kind != api.VBool && kind != api.VInt; got != want {
			t.Errorf("kind %d: Num", kind)
		}
		b = api.Value{Kind: kind, Text: "a"}
		if got, want := value.Equal(a, b), kind != api.VStr; got != want {
			t.Errorf("kind %d: Text", kind)
		}
		b = api.Value{Kind: kind, Items: numbers(1)}
		if got, want := value.Equal(a, b), kind < api.VList || kind > api.VMap; got != want {
			t.Errorf("kind %d: Items", kind)
		}
	}
	if value.Compare(boolean(2), boolean(-3)) != 1 || value.Compare(set(num(2), num(1)), set(num(2), num(0))) != 1 || value.Compare(dict(num(1)), dict()) != 1 {
		t.Errorf("Compare of values that are not right")
	}
}

func TestSet(t *testing.T) {
	for _, c := range []struct {
		in   []api.Value
		want api.Value
	}{
		{nil, set()}, {[]api.Value{}, set()},
		{[]api.Value{num(2), num(1), num(2)}, set(num(1), num(2))},
		{[]api.Value{list(), {Kind: api.VList, Items: []api.Value{}}}, set(list())},
		{[]api.Value{str("a"), {}, num(3), boolean(1)}, set(api.Value{}, boolean(1), num(3), str("a"))},
		{repeated(api.MaxLen, num(7)), set(num(7))},
		{slices.Concat(numbers(api.MaxParts-1), numbers(api.MaxParts-1)), set(numbers(api.MaxParts - 1)...)},
		{repeated(1, nested(api.MaxDeep-1, num(1))), set(nested(api.MaxDeep-1, num(1)))},
	} {
		if got, e := value.Set(c.in); e != api.OK || !same(got, c.want) {
			t.Errorf("Set(%s): %s, %v", short(c.in), short(got), e)
		}
	}
}

func TestMap(t *testing.T) {
	for _, c := range []struct {
		in   []api.Pair
		want api.Value
	}{
		{nil, dict()}, {[]api.Pair{}, dict()},
		{[]api.Pair{pair(num(1), str("a")), pair(num(1), str("b"))}, dict(num(1), str("b"))},
		{[]api.Pair{pair(num(1), num(9)), pair(num(1), num(0))}, dict(num(1), num(0))},
		{[]api.Pair{pair(num(2), num(5)), pair(num(1), num(6)), pair(num(2), num(4)), pair(num(0), num(5))}, dict(num(0), num(5), num(1), num(6), num(2), num(4))},
		{slices.Repeat([]api.Pair{pair(num(1), list(numbers(1000)...)), pair(num(1), num(3))}, api.MaxLen/2), dict(num(1), num(3))},
		{[]api.Pair{pair(num(1), nested(api.MaxDeep, num(1))), pair(num(1), num(3))}, dict(num(1), num(3))},
		{[]api.Pair{pair(nested(api.MaxDeep-1, num(1)), num(1))}, dict(nested(api.MaxDeep-1, num(1)), num(1))},
		{[]api.Pair{pair(num(1), list(numbers(api.MaxParts-3)...))}, dict(num(1), list(numbers(api.MaxParts-3)...))},
	} {
		if got, e := value.Map(c.in); e != api.OK || !same(got, c.want) {
			t.Errorf("Map(%s): %s, %v", short(c.in), short(got), e)
		}
	}
}

// TestMapLastOfMany has more pairs of each key than a sort that is not stable would leave in their order.
func TestMapLastOfMany(t *testing.T) {
	var in []api.Pair
	for i := range 5000 {
		in = append(in, pair(num(int64(i%7)), num(int64(i))))
	}
	got, e := value.Map(in)
	var want []api.Value
	for k := range int64(7) {
		last := 4999 - (4999-k)%7
		want = append(want, num(k), num(last))
	}
	if e != api.OK || !same(got, dict(want...)) {
		t.Errorf("Map: %v, %v", got, e)
	}
}

func TestList(t *testing.T) {
	for _, in := range [][]api.Value{nil, {}, {num(2), num(1), num(2)}, numbers(api.MaxParts - 1), {nested(api.MaxDeep-1, list())}} {
		if got, e := value.List(in); e != api.OK || !same(got, list(in...)) {
			t.Errorf("List(%s): %s, %v", short(in), short(got), e)
		}
	}
}

func TestSort(t *testing.T) {
	l := line()
	l = l[1 : len(l)-1]
	l = slices.DeleteFunc(l, func(v api.Value) bool { return value.Check(v) != api.OK })
	twice := slices.Concat(l, l)
	slices.Reverse(twice)
	var want []api.Value
	for _, v := range l {
		want = append(want, v, v)
	}
	if got, e := value.Sort(twice); e != api.OK || !sameAll(got, want) {
		t.Errorf("Sort: %v, %v", got, e)
	}
	for _, in := range [][]api.Value{nil, {}} {
		if got, e := value.Sort(in); e != api.OK || len(got) != 0 {
			t.Errorf("Sort of none: %v, %v", got, e)
		}
	}
	most := numbers(api.MaxLen)
	slices.Reverse(most)
	if got, e := value.Sort(most); e != api.OK || !sameAll(got, numbers(api.MaxLen)) {
		t.Errorf("Sort of MaxLen: %d, %v", len(got), e)
	}
	if got, e := value.Sort([]api.Value{nested(api.MaxDeep, num(2)), nested(api.MaxDeep, num(1))}); e != api.OK || len(got) != 2 || !same(got[0], nested(api.MaxDeep, num(1))) {
		t.Errorf("Sort of deep ones: %v, %v", got, e)
	}
}

func TestMadeBeyondLimits(t *testing.T) {
	deepest := nested(api.MaxDeep, num(1))
	for i, in := range [][]api.Value{numbers(api.MaxParts), {deepest}, {num(1), deepest}, {list(numbers(600)...), list(numbers(601)...)}, numbers(api.MaxLen)} {
		if got, e := value.Set(in); e != api.ErrLong || !zero(got) {
			t.Errorf("%d: Set: %s, %v", i, short(got), e)
		}
		if got, e := value.List(in); e != api.ErrLong || !zero(got) {
			t.Errorf("%d: List: %s, %v", i, short(got), e)
		}
		var keys, vals []api.Pair
		for k, v := range in {
			keys, vals = append(keys, pair(v, num(0))), append(vals, pair(num(int64(k)), v))
		}
		if got, e := value.Map(keys); e != api.ErrLong || !zero(got) {
			t.Errorf("%d: Map of keys: %s, %v", i, short(got), e)
		}
		if got, e := value.Map(vals); e != api.ErrLong || !zero(got) {
			t.Errorf("%d: Map of values: %s, %v", i, short(got), e)
		}
	}
	if _, e := value.List(repeated(api.MaxParts, num(1))); e != api.ErrLong {
		t.Errorf("List of equal ones: %v", e)
	}
	if _, e := value.Map([]api.Pair{pair(num(1), list(numbers(api.MaxParts-2)...))}); e != api.ErrLong {
		t.Errorf("Map of one part too many: %v", e)
	}
}

func checkListCalls(t *testing.T, name string, in []api.Value, want api.Errno) {
	t.Helper()
	if got, e := value.Set(in); e != want || !zero(got) {
		t.Errorf("%s: Set: %s, %v", name, short(got), e)
	}
	if got, e := value.List(in); e != want || !zero(got) {
		t.Errorf("%s: List: %s, %v", name, short(got), e)
	}
	if got, e := value.Sort(in); e != want || got != nil {
		t.Errorf("%s: Sort: %s, %v", name, short(got), e)
	}
}

func TestWrongArguments(t *testing.T) {
	for _, w := range wrongs() {
		checkListCalls(t, "alone", []api.Value{w}, api.ErrValue)
		checkListCalls(t, "last", []api.Value{num(1), num(2), w}, api.ErrValue)
		checkListCalls(t, "in what is too long", append(numbers(api.MaxParts), w), api.ErrValue)
		for _, p := range []api.Pair{pair(w, num(1)), pair(num(1), w)} {
			for _, in := range [][]api.Pair{{p}, {p, pair(num(1), num(2))}, {pair(num(1), num(2)), p}, append(slices.Repeat([]api.Pair{pair(nested(api.MaxDeep, num(1)), num(1))}, 3), p)} {
				if got, e := value.Map(in); e != api.ErrValue || !zero(got) {
					t.Errorf("Map(%s): %s, %v", short(in), short(got), e)
				}
			}
		}
		if n, e := value.Parts(w); n != 0 || e != api.ErrValue {
			t.Errorf("Parts(%s): %d, %v", short(w), n, e)
		}
		if n, e := value.Deep(w); n != 0 || e != api.ErrValue {
			t.Errorf("Deep(%s): %d, %v", short(w), n, e)
		}
		if l, e := value.Pairs(w); l != nil || e != api.ErrValue {
			t.Errorf("Pairs(%s): %v, %v", short(w), l, e)
		}
	}
	// The length is asked ahead of the members.
	tooMany := repeated(api.MaxLen+1, boolean(2))
	checkListCalls(t, "too many wrong ones", tooMany, api.ErrLong)
	checkListCalls(t, "too many", repeated(api.MaxLen+1, num(1)), api.ErrLong)
	for _, p := range []api.Pair{pair(num(1), num(1)), pair(boolean(2), num(1))} {
		if got, e := value.Map(slices.Repeat([]api.Pair{p}, api.MaxLen+1)); e != api.ErrLong || !zero(got) {
			t.Errorf("Map of too many: %s, %v", short(got), e)
		}
	}
}

func TestPartsAndDeep(t *testing.T) {
	for _, c := range []struct {
		v           api.Value
		parts, deep int
	}{
		{api.Value{}, 1, 0}, {num(5), 1, 0}, {str("abc"), 1, 0}, {list(), 1, 0}, {set(), 1, 0}, {api.Value{Kind: api.VMap, Items: []api.Value{}}, 1, 0},
		{list(num(1), num(1)), 3, 1}, {dict(num(1), num(2)), 3, 1}, {set(list()), 2, 1},
		{list(list(num(1)), num(2), list(list(), num(3))), 7, 2}, {list(num(1), list(list(list())), num(1)), 6, 3},
		{nested(api.MaxDeep, num(1)), api.MaxDeep + 1, api.MaxDeep}, {list(numbers(api.MaxParts - 1)...), api.MaxParts, 1},
	} {
		if n, e := value.Parts(c.v); n != c.parts || e != api.OK {
			t.Errorf("Parts(%s): %d, %v", short(c.v), n, e)
		}
		if n, e := value.Deep(c.v); n != c.deep || e != api.OK {
			t.Errorf("Deep(%s): %d, %v", short(c.v), n, e)
		}
	}
}

func TestPairs(t *testing.T) {
	got, e := value.Pairs(dict(num(1), list(num(9)), num(2), num(8), str("a"), num(7)))
	want := []api.Pair{pair(num(1), list(num(9))), pair(num(2), num(8)), pair(str("a"), num(7))}
	if e != api.OK || !reflect.DeepEqual(got, want) {
		t.Errorf("Pairs: %v, %v", got, e)
	}
	for _, v := range []api.Value{dict(), {Kind: api.VMap, Items: []api.Value{}}} {
		if got, e := value.Pairs(v); e != api.OK || len(got) != 0 {
			t.Errorf("Pairs of none: %v, %v", got, e)
		}
	}
	for _, v := range []api.Value{{}, boolean(1), num(1), str("a"), list(num(1), num(2)), set(num(1), num(2))} {
		if got, e := value.Pairs(v); e != api.ErrArg || got != nil {
			t.Errorf("Pairs(%v): %v, %v", v, got, e)
		}
	}
}

func TestOrderIsOne(t *testing.T) {
	l := slices.Concat(line(), sample.New(1).Values(60, 3))
	for _, a := range l {
		if value.Compare(a, a) != 0 {
			t.Errorf("Compare(%v, itself)", a)
		}
		for _, b := range l {
			ab := value.Compare(a, b)
			if ab != -value.Compare(b, a) || value.Equal(a, b) != (ab == 0) || (ab == 0) != same(a, b) {
				t.Errorf("Compare(%v, %v): %d", a, b, ab)
			}
			for _, c := range l {
				if ab <= 0 && value.Compare(b, c) <= 0 && value.Compare(a, c) != min(ab, value.Compare(b, c)) {
					t.Errorf("%v, %v, %v", a, b, c)
				}
			}
		}
	}
}

func TestMadeIsRight(t *testing.T) {
	s := sample.New(2)
	for range 2000 {
		in, pairs := s.Values(s.Below(12), 3), s.Pairs(s.Below(12), 3)
		made, e := value.Set(in)
		if e != api.OK || value.Check(made) != api.OK {
			t.Errorf("Set(%v): %v, %v", in, made, e)
		}
		for _, v := range in {
			if !slices.ContainsFunc(made.Items, func(m api.Value) bool { return same(m, v) }) {
				t.Errorf("Set(%v) is without %v", in, v)
			}
		}
		for i, j := range permutation(s, len(in)) {
			in[i], in[j] = in[j], in[i]
		}
		if again, e := value.Set(in); e != api.OK || !same(again, made) {
			t.Errorf("Set(%v): %v, then %v", in, made, again)
		}
		if made, e := value.List(in); e != api.OK || value.Check(made) != api.OK {
			t.Errorf("List(%v): %v, %v", in, made, e)
		}
		made, e = value.Map(pairs)
		if e != api.OK || value.Check(made) != api.OK {
			t.Errorf("Map(%v): %v, %v", pairs, made, e)
		}
		back, e := value.Pairs(made)
		if again, f := value.Map(back); e != api.OK || f != api.OK || !same(again, made) {
			t.Errorf("Map(Pairs(%v)): %v", made, again)
		}
		sorted, e := value.Sort(in)
		if e != api.OK || len(sorted) != len(in) || !slices.IsSortedFunc(sorted, value.Compare) {
			t.Errorf("Sort(%v): %v, %v", in, sorted, e)
		}
	}
}

// permutation are places to exchange with, one by one.
func permutation(s *sample.Source, n int) []int {
	out := make([]int, n)
	for i := range out {
		out[i] = s.Below(n)
	}
	return out
}

func TestArgumentsAreNotChangedAndNotKept(t *testing.T) {
	part := sample.RoomyAll([]api.Value{num(3), num(4)})
	shared := api.Value{Kind: api.VList, Items: part}
	fresh := func() []api.Value {
		return sample.RoomyAll([]api.Value{list(num(2), set(num(1), num(2))), dict(num(1), list(num(5))), num(9), list(), num(9)})
	}
	for name, call := range map[string]func([]api.Value) ([]api.Value, api.Errno){
		"Set":  func(l []api.Value) ([]api.Value, api.Errno) { v, e := value.Set(l); return v.Items, e },
		"List": func(l []api.Value) ([]api.Value, api.Errno) { v, e := value.List(l); return v.Items, e },
		"Sort": value.Sort,
		"Map": func(l []api.Value) ([]api.Value, api.Errno) {
			var in []api.Pair
			for _, v := range l {
				in = append(in, pair(v, v))
			}
			v, e := value.Map(in)
			return v.Items, e
		},
	} {
		in := fresh()
		first, e := call(in)
		if e != api.OK || !sameAll(in, fresh()) || !sample.RoomKept(in) {
			t.Errorf("%s has changed its argument: %v", name, in)
		}
		want := sample.Roomy(list(first...))
		again, _ := call(in)
		sample.Spoil(again)
		if !sameAll(in, fresh()) || !same(list(first...), want) {
			t.Errorf("%s: answers share memory", name)
		}
		sample.Spoil(in)
		if !same(list(first...), want) {
			t.Errorf("%s: an answer shares memory with its argument", name)
		}
		both, e := call([]api.Value{list(num(1), shared), list(num(2), shared)})
		if e != api.OK {
			t.Errorf("%s: %v", name, e)
		}
		sample.Spoil(both[0].Items)
		if !same(both[len(both)-1], list(num(2), shared)) || !sameAll(part, []api.Value{num(3), num(4)}) {
			t.Errorf("%s: lists of one answer share memory", name)
		}
	}
}

func TestTextsAreNotKept(t *testing.T) {
	long := strings.Repeat("a", api.MaxText)
	v, e := value.List([]api.Value{list(str(long))})
	if e != api.OK || v.Items[0].Items[0].Text != long {
		t.Fatalf("List: %v, %v", v, e)
	}
	if unsafe.StringData(v.Items[0].Items[0].Text) == unsafe.StringData(long) {
		t.Errorf("a text of the answer is the argument's memory")
	}
}

func TestMapLeavesItsPairs(t *testing.T) {
	fresh := func() []api.Pair {
		return []api.Pair{pair(num(2), list(num(1))), pair(num(1), num(5)), pair(num(2), num(6)), pair(num(7), num(7)), pair(num(0), num(7))}
	}
	all := fresh()
	in := all[:3]
	if _, e := value.Map(in); e != api.OK || !reflect.DeepEqual(all, fresh()) {
		t.Errorf("Map has changed its argument: %v, %v", all, e)
	}
}

func TestPairsShareNothing(t *testing.T) {
	part := []api.Value{num(3), num(4)}
	fresh := func() api.Value {
		return dict(num(1), list(num(5)), num(2), list(part...), list(part...), list(part...))
	}
	v := sample.Roomy(fresh())
	v.Items[3].Items, v.Items[4].Items, v.Items[5].Items = part, part, part
	got, e := value.Pairs(v)
	if e != api.OK || len(got) != 3 || !same(v, fresh()) || !sample.RoomKept(v.Items) {
		t.Fatalf("Pairs: %v, %v", got, e)
	}
	sample.Spoil(got[1].Val.Items)
	sample.Spoil(got[2].Key.Items)
	if !same(v, fresh()) || !same(got[2].Val, list(num(3), num(4))) {
		t.Errorf("Pairs share memory: %v", got)
	}
	sample.Spoil(v.Items)
	if !same(got[2].Val, list(num(3), num(4))) || !same(got[0].Val, list(num(5))) {
		t.Errorf("Pairs share memory with the map: %v", got)
	}
}

func TestSameCallTellsTheSame(t *testing.T) {
	s := sample.New(3)
	for range 200 {
		in := s.Values(8, 3)
		a, e := value.Set(in)
		b, f := value.Set(in)
		if e != f || !same(a, b) {
			t.Errorf("Set(%v): %v, then %v", in, a, b)
		}
	}
}

// short is what a failing test shows of something that may be long.
func short(x any) string {
	s := fmt.Sprint(x)
	return s[:min(len(s), 80)]
}
