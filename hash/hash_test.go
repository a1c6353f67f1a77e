package hash_test

import (
	"math"
	"reflect"
	"slices"
	"strings"
	"testing"
	"unicode/utf16"

	"spinney/api"
	"spinney/hash"
	"spinney/murmur"
	"spinney/sample"
	"spinney/value"
)

const most = 1<<32 - 1

func num(n int64) api.Value             { return sample.Num(n) }
func str(s string) api.Value            { return sample.Str(s) }
func list(items ...api.Value) api.Value { return sample.List(items...) }
func set(items ...api.Value) api.Value  { return sample.Set(items...) }
func dict(items ...api.Value) api.Value { return sample.Map(items...) }

// edgeHashes are hashes at the ends of bits and groups, and some of no mark.
func edgeHashes() []uint32 {
	out := []uint32{0, 1, 31, 32, 1<<30 - 1, 1 << 30, 1<<31 - 1, 1 << 31, most - 1, most, 0x12345678, 0x9abcdef0, 0x55555555, 0xaaaaaaaa}
	for i := range int64(50) {
		out = append(out, murmur.Long(i))
	}
	return out
}

// P5, 4.1: the fixed values are those that Clojure tells.
func TestFullIsThePublishedHash(t *testing.T) {
	for _, c := range []struct {
		v    api.Value
		want uint32
	}{
		{api.Value{}, 0}, {sample.Bool(0), 1237}, {sample.Bool(1), 1231},
		{num(0), 0}, {num(1), 1392991556}, {num(2), 3323962100}, {num(42), 1871679806}, {num(-1), 1651860712}, {num(math.MaxInt64), 2188461247}, {num(math.MinInt64), 1366273829},
		{num(1 << 31), 386683422}, {num(-1 << 31), 2221932504}, {num(1 << 32), 987256456},
		{str(""), 0}, {str("a"), 1455541201}, {str("ab"), 1707819681}, {str("abc"), 74834163}, {str("hello"), 1715862179},
		{list(), 2277397642}, {set(), 4279838538}, {dict(), 4279838538},
		{list(api.Value{}), 965192274}, {set(api.Value{}), 2610738074}, {list(list()), 138577571},
		{list(num(1), num(2), num(3)), 736442005}, {set(num(1), num(2), num(3)), 439094965}, {dict(num(1), num(2)), 1952097988},
		{dict(num(3), api.Value{}, str("a"), list(num(1), sample.Bool(1))), 4173836952},
	} {
		if h, e := hash.Full(c.v); h != c.want || e != api.OK {
			t.Errorf("Full(%v): %d, %v, want %d", c.v, h, e, c.want)
		}
	}
	h, _ := hash.Full(list())
	if int32(h) != -2017569654 {
		t.Errorf("with a sign: %d", int32(h))
	}
}

// reference is the full hash by the words of the chapter, with the library's own way to units.
func reference(v api.Value) uint32 {
	var l []uint32
	for _, item := range v.Items {
		l = append(l, reference(item))
	}
	switch v.Kind {
	case api.VBool:
		return uint32(1237 - 6*v.Num)
	case api.VInt:
		return murmur.Long(v.Num)
	case api.VStr:
		return murmur.Int(murmur.Java(utf16.Encode([]rune(v.Text))))
	case api.VList:
		return murmur.Ordered(l)
	case api.VSet:
		return murmur.Unordered(l)
	case api.VMap:
		var pairs []uint32
		for pair := range slices.Chunk(l, 2) {
			pairs = append(pairs, murmur.Ordered(pair))
		}
		return murmur.Unordered(pairs)
	}
	return 0
}

// 4.1
func TestFullOfMany(t *testing.T) {
	s := sample.New(1)
	for range 3000 {
		v := s.Value(4)
		if h, e := hash.Full(v); h != reference(v) || e != api.OK {
			t.Errorf("Full(%v): %d, %v, want %d", v, h, e, reference(v))
		}
	}
	for _, v := range []api.Value{sample.Nested(api.MaxDeep, num(1)), list(sample.Numbers(api.MaxParts - 1)...), set(sample.Numbers(api.MaxParts - 1)...), dict(sample.Numbers(api.MaxParts - 2)...)} {
		if h, e := hash.Full(v); h != reference(v) || e != api.OK {
			t.Errorf("at a limit: %d, %v, want %d", h, e, reference(v))
		}
	}
}

// 4.1
func TestText(t *testing.T) {
	for _, c := range []struct {
		s    string
		want uint32
	}{
		{"", 0}, {"\x00", 0}, {"a", 1455541201}, {"ab", 1707819681}, {"€", 520806086},
		{"\uffff", 2308676974}, {"\U00010000", 744094562}, {"𝄞", 3437811893}, {"a𝄞b", 707374673}, {"\U0010ffff", 1979407395},
		{"\ud7ff\ue000", 2640720740}, {strings.Repeat("z", api.MaxText), 1862323236},
	} {
		if h, e := hash.Text(c.s); h != c.want || e != api.OK {
			t.Errorf("Text(%q): %d, %v, want %d", c.s, h, e, c.want)
		}
		if h, e := hash.Full(str(c.s)); h != c.want || e != api.OK {
			t.Errorf("Full(%q): %d, %v, want %d", c.s, h, e, c.want)
		}
	}
	for r := rune(1); r <= 0x10ffff; r += 97 {
		if r >= 0xd800 && r < 0xe000 {
			continue
		}
		s := "x" + string(r) + "y"
		if h, e := hash.Text(s); h != reference(str(s)) || e != api.OK {
			t.Errorf("Text(%q): %d, %v", s, h, e)
		}
	}
}

// 4.1
func TestNoValuesText(t *testing.T) {
	for _, s := range []string{"\xff", "a\x80", "\xc3", "\xc0\x80", "\xed\xa0\x80", "\xf4\x90\x80\x80", strings.Repeat("a", api.MaxText+1), strings.Repeat("é", api.MaxText/2) + "a"} {
		if h, e := hash.Text(s); h != 0 || e != api.ErrValue {
			t.Errorf("Text(%q): %d, %v", s, h, e)
		}
	}
}

// 4.1
func TestCut(t *testing.T) {
	for _, c := range []struct {
		kind       int
		full, want uint32
	}{
		{0, most, most}, {1, most, 1}, {5, most, 31}, {31, most, most >> 1}, {32, most, 0}, {33, most, 1 << 31}, {34, most, 3 << 30}, {63, most, most - 1},
		{0, 0x9abcdef0, 0x9abcdef0}, {1, 0x9abcdef0, 0}, {8, 0x9abcdef0, 0xf0}, {31, 0x9abcdef0, 0x1abcdef0}, {32, 0x9abcdef0, 0}, {33, 0x9abcdef0, 0x80000000}, {40, 0x9abcdef0, 0x9a000000}, {63, 0x9abcdef1, 0x9abcdef0},
	} {
		if h, e := hash.Cut(c.kind, c.full); h != c.want || e != api.OK {
			t.Errorf("Cut(%d, %#x): %#x, %v, want %#x", c.kind, c.full, h, e, c.want)
		}
	}
}

// keeps tells whether a kind keeps a bit.
func keeps(kind, bit int) bool {
	return kind == 0 || kind < 32 && bit < kind || kind > 32 && bit >= 64-kind
}

// 4.1
func TestCutBitByBit(t *testing.T) {
	for kind := range api.MaxHash + 1 {
		for _, full := range edgeHashes() {
			var want uint32
			for bit := range 32 {
				if keeps(kind, bit) {
					want |= full & (1 << bit)
				}
			}
			if h, e := hash.Cut(kind, full); h != want || e != api.OK {
				t.Errorf("Cut(%d, %#x): %#x, %v, want %#x", kind, full, h, e, want)
			}
		}
	}
}

// 4.1
func TestOf(t *testing.T) {
	s := sample.New(2)
	for range 300 {
		v := s.Value(3)
		for kind := range api.MaxHash + 1 {
			want, _ := hash.Cut(kind, reference(v))
			if h, e := hash.Of(kind, v); h != want || e != api.OK {
				t.Errorf("Of(%d, %v): %#x, %v, want %#x", kind, v, h, e, want)
			}
		}
	}
}

// 4.1, R1, R4: the kind is looked at ahead of the value.
func TestWrongArguments(t *testing.T) {
	for _, v := range sample.Wrongs() {
		if h, e := hash.Full(v); h != 0 || e != api.ErrValue {
			t.Errorf("Full(%v): %d, %v", v, h, e)
		}
		for _, kind := range []int{0, 1, 31, 32, 33, 63} {
			if h, e := hash.Of(kind, v); h != 0 || e != api.ErrValue {
				t.Errorf("Of(%d, %v): %d, %v", kind, v, h, e)
			}
		}
		for _, kind := range sample.Beyond(api.MaxHash) {
			if h, e := hash.Of(kind, v); h != 0 || e != api.ErrKind {
				t.Errorf("Of(%d, %v): %d, %v", kind, v, h, e)
			}
		}
	}
	for _, kind := range sample.Beyond(api.MaxHash) {
		if h, e := hash.Of(kind, num(1)); h != 0 || e != api.ErrKind {
			t.Errorf("Of(%d, 1): %d, %v", kind, h, e)
		}
		if h, e := hash.Cut(kind, most); h != 0 || e != api.ErrKind {
			t.Errorf("Cut(%d): %d, %v", kind, h, e)
		}
	}
}

// 4.2
func TestGroup(t *testing.T) {
	for i, want := range []int{31, 31, 31, 31, 31, 31, 3} {
		if g, e := hash.Group(most, i); g != want || e != api.OK {
			t.Errorf("Group(%d): %d, %v, want %d", i, g, e, want)
		}
	}
	if g, e := hash.Group(0x21, 1); g != 1 || e != api.OK {
		t.Errorf("Group(0x21, 1): %d, %v", g, e)
	}
	for _, h := range edgeHashes() {
		var whole uint64
		for i := range 7 {
			g, e := hash.Group(h, i)
			if e != api.OK || g < 0 || g > 31 {
				t.Errorf("Group(%#x, %d): %d, %v", h, i, g, e)
			}
			whole |= uint64(g) << (5 * i)
		}
		if whole != uint64(h) {
			t.Errorf("the groups of %#x are those of %#x", h, whole)
		}
	}
	for _, i := range []int{-1, 7, 8, 32, -1 << 62, math.MinInt, math.MaxInt} {
		if g, e := hash.Group(most, i); g != 0 || e != api.ErrArg {
			t.Errorf("Group(%d): %d, %v", i, g, e)
		}
	}
}

// 4.2
func TestEntry(t *testing.T) {
	for _, c := range []struct{ key, value, want uint32 }{
		{0, 0, 2631255682}, {1, 2, 1185709346}, {2, 1, 3749121880}, {most, 1, 2415977603},
	} {
		if h := hash.Entry(c.key, c.value); h != c.want {
			t.Errorf("Entry(%d, %d): %d, want %d", c.key, c.value, h, c.want)
		}
	}
	s := sample.New(3)
	for range 500 {
		k, v := s.Value(2), s.Value(2)
		want, _ := hash.Full(list(k, v))
		if h := hash.Entry(reference(k), reference(v)); h != want {
			t.Errorf("Entry of %v, %v: %d, want %d", k, v, h, want)
		}
	}
}

// groups are what trie order goes by: a hash's groups from the lowest on.
func groups(kind int, v api.Value) []int {
	h, _ := hash.Of(kind, v)
	var out []int
	for i := range 7 {
		out = append(out, int(h>>(5*i)&31))
	}
	return out
}

// 4.3
func TestBefore(t *testing.T) {
	s := sample.New(4)
	values := append(s.Values(60, 2), sample.Numbers(40)...)
	for kind := range api.MaxHash + 1 {
		for _, a := range values {
			for _, b := range values {
				c := slices.Compare(groups(kind, a), groups(kind, b))
				if c == 0 {
					c = value.Compare(a, b)
				}
				if is, e := hash.Before(kind, a, b); is != (c < 0) || e != api.OK {
					t.Fatalf("Before(%d, %v, %v): %v, %v", kind, a, b, is, e)
				}
			}
		}
	}
}

// 4.3: the hash of true is 1231, 15 in group 0 and 6 in group 1; that of false 1237, 21 and 6; that of nil 0; that of 1 1392991556, 4 in group 0.
func TestBeforeByHand(t *testing.T) {
	none, no, yes, one := api.Value{}, sample.Bool(0), sample.Bool(1), num(1)
	for _, c := range []struct {
		kind int
		a, b api.Value
		want bool
	}{
		{0, yes, no, true}, {0, no, yes, false}, {0, one, yes, true}, {0, yes, one, false}, {0, none, one, true}, {0, one, none, false}, {0, one, one, false},
		{32, yes, no, false}, {32, no, yes, true}, {32, no, one, true}, {32, num(1), num(2), true}, {32, num(2), num(1), false}, {32, num(2), num(2), false},
		{1, one, yes, true}, {1, yes, one, false}, {1, yes, no, false}, {1, no, yes, true},
		{0, str(""), num(0), false}, {0, num(0), str(""), true}, {0, str("\x00"), str(""), false}, {0, str(""), str("\x00"), true},
	} {
		if is, e := hash.Before(c.kind, c.a, c.b); is != c.want || e != api.OK {
			t.Errorf("Before(%d, %v, %v): %v, %v", c.kind, c.a, c.b, is, e)
		}
	}
}

// 4.3: the lowest group counts most, whatever stands above it; under 33 the highest bit alone counts.
func TestBeforeByTheLowestGroup(t *testing.T) {
	for i := range int64(200) {
		v, w := num(i), num(i+1)
		hv, _ := hash.Full(v)
		hw, _ := hash.Full(w)
		if hv&31 == hw&31 {
			continue
		}
		if is, _ := hash.Before(0, v, w); is != (hv&31 < hw&31) {
			t.Errorf("Before(%v, %v): %v of %#x, %#x", v, w, is, hv, hw)
		}
		if is, _ := hash.Before(33, v, w); is != (hv>>31 <= hw>>31) {
			t.Errorf("under 33: Before(%v, %v): %v of %#x, %#x", v, w, is, hv, hw)
		}
	}
}

// 4.3, R1, R4
func TestBeforeOfWrongArguments(t *testing.T) {
	for _, v := range sample.Wrongs() {
		for _, kind := range []int{0, 1, 31, 32, 33, 63} {
			for _, c := range [][2]api.Value{{v, num(1)}, {num(1), v}, {v, v}} {
				if is, e := hash.Before(kind, c[0], c[1]); is || e != api.ErrValue {
					t.Errorf("Before(%d, %v, %v): %v, %v", kind, c[0], c[1], is, e)
				}
			}
		}
		for _, kind := range sample.Beyond(api.MaxHash) {
			for _, c := range [][2]api.Value{{v, num(1)}, {num(1), v}, {v, v}, {num(1), num(2)}} {
				if is, e := hash.Before(kind, c[0], c[1]); is || e != api.ErrKind {
					t.Errorf("Before(%d, %v, %v): %v, %v", kind, c[0], c[1], is, e)
				}
			}
		}
	}
}

// 4.4, P5: however a value was made, with nil or empty lists.
func TestEqualValuesHashEqually(t *testing.T) {
	for _, kind := range []int{api.VNil, api.VBool, api.VInt, api.VStr, api.VList, api.VSet, api.VMap} {
		a, _ := hash.Full(api.Value{Kind: kind})
		b, e := hash.Full(api.Value{Kind: kind, Items: []api.Value{}})
		if a != b || e != api.OK {
			t.Errorf("kind %d: %d without a list, %d with an empty one, %v", kind, a, b, e)
		}
	}
	s := sample.New(5)
	for range 500 {
		l, m := s.Values(s.Below(8), 2), s.Pairs(s.Below(8), 2)
		a, _ := value.Set(l)
		slices.Reverse(l)
		b, _ := value.Set(append(l, l...))
		checkSameHash(t, a, b)
		a, _ = value.Map(m)
		turned, _ := value.Pairs(a)
		slices.Reverse(turned)
		b, _ = value.Map(turned)
		checkSameHash(t, a, b)
	}
}

func checkSameHash(t *testing.T, a, b api.Value) {
	t.Helper()
	for _, kind := range []int{0, 1, 31, 32, 33, 63} {
		x, _ := hash.Of(kind, a)
		y, e := hash.Of(kind, b)
		if x != y || e != api.OK || !value.Equal(a, b) {
			t.Errorf("%v, %v under %d: %d, %d, %v", a, b, kind, x, y, e)
		}
	}
}

// 4.4
func TestOrderSaysNothing(t *testing.T) {
	s := sample.New(6)
	for range 500 {
		v, _ := value.Set(s.Values(s.Below(8), 2))
		m, _ := value.Map(s.Pairs(s.Below(8), 2))
		var items, pairs []uint32
		for _, item := range v.Items {
			h, _ := hash.Full(item)
			items = append([]uint32{h}, items...)
		}
		for i := 0; i < len(m.Items); i += 2 {
			h, _ := hash.Full(list(m.Items[i], m.Items[i+1]))
			pairs = append([]uint32{h}, pairs...)
		}
		if h, _ := hash.Full(v); h != murmur.Unordered(items) {
			t.Errorf("Full(%v): %d", v, h)
		}
		if h, _ := hash.Full(m); h != murmur.Unordered(pairs) {
			t.Errorf("Full(%v): %d", m, h)
		}
	}
}

// 4.5
func TestTrieOrderIsTotal(t *testing.T) {
	s := sample.New(7)
	before := func(kind int, a, b api.Value) bool {
		is, e := hash.Before(kind, a, b)
		if e != api.OK {
			t.Fatalf("Before(%d, %v, %v): %v", kind, a, b, e)
		}
		return is
	}
	for _, kind := range []int{0, 1, 3, 5, 6, 31, 32, 33, 35, 37, 63} {
		values := append(s.Values(30, 2), str(""), num(0), api.Value{}, str("\x00"))
		for _, a := range values {
			for _, b := range values {
				if one, other := before(kind, a, b), before(kind, b, a); one == other && !value.Equal(a, b) || one && other || one && value.Equal(a, b) {
					t.Errorf("kind %d: %v, %v: %v, %v", kind, a, b, one, other)
				}
				for _, c := range values {
					if before(kind, a, b) && before(kind, b, c) && !before(kind, a, c) {
						t.Errorf("kind %d: %v, %v, %v", kind, a, b, c)
					}
				}
			}
		}
	}
}

// 4.6: 32 keeps no bit of either end, 0 keeps all of them.
func TestMoreBitsTellMoreApart(t *testing.T) {
	low, high := []int{32}, []int{32}
	for k := 1; k <= 31; k++ {
		low, high = append(low, k), append(high, k+32)
	}
	low, high = append(low, 0), append(high, 0)
	hashes := edgeHashes()
	for _, kinds := range [][]int{low, high} {
		for i := 1; i < len(kinds); i++ {
			for _, a := range hashes {
				for _, b := range hashes {
					checkTellsApart(t, kinds[i-1], kinds[i], a, b)
				}
			}
		}
	}
}

func checkTellsApart(t *testing.T, less, more int, a, b uint32) {
	t.Helper()
	a1, _ := hash.Cut(less, a)
	b1, _ := hash.Cut(less, b)
	a2, _ := hash.Cut(more, a)
	b2, _ := hash.Cut(more, b)
	if a1 != b1 && a2 == b2 {
		t.Errorf("kind %d tells %#x and %#x apart, %d does not", less, a, b, more)
	}
}

// R3: values stay as they are, with the room behind their lists; R6: the same call tells the same.
func TestArgumentsStay(t *testing.T) {
	fresh := func() []api.Value {
		return []api.Value{num(3), str("a"), list(num(2), num(1)), set(num(1), num(2)), dict(num(1), str("b")), num(9), num(8)}
	}
	all := fresh()
	v := list(all[:5]...)
	first, _ := hash.Full(v)
	hash.Of(5, v)
	hash.Before(33, v, list(all[:4]...))
	again, _ := hash.Full(v)
	if !reflect.DeepEqual(all, fresh()) || len(v.Items) != 5 || first != again {
		t.Errorf("changed: %v, %d, %d", all, first, again)
	}
}
