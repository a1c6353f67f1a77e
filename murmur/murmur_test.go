package murmur_test

import (
	"math/bits"
	"slices"
	"testing"

	"spinney/murmur"
	"spinney/sample"
)

const most = 1<<32 - 1

// word is any number of 32 bits; the edges come often.
func word(s *sample.Source) uint32 {
	edges := [...]uint32{0, 1, 2, 1<<15 - 1, 1 << 15, 1<<16 - 1, 1 << 16, 1<<31 - 1, 1 << 31, 1<<31 + 1, most - 1, most}
	if s.Below(4) == 0 {
		return edges[s.Below(len(edges))]
	}
	return uint32(s.Below(1<<16))<<16 | uint32(s.Below(1<<16))
}

func words(s *sample.Source, n int) []uint32 {
	out := make([]uint32, n)
	for i := range out {
		out[i] = word(s)
	}
	return out
}

func units(s *sample.Source, n int) []uint16 {
	out := make([]uint16, n)
	for i := range out {
		out[i] = uint16(word(s) >> 8)
	}
	return out
}

// published is Murmur3 of 32 bits with the seed 0, byte by byte as it was published.
func published(data []byte) uint32 {
	var h uint32
	n := uint32(len(data))
	scramble := func(k uint32) uint32 { return bits.RotateLeft32(k*0xcc9e2d51, 15) * 0x1b873593 }
	for ; len(data) >= 4; data = data[4:] {
		k := uint32(data[0]) | uint32(data[1])<<8 | uint32(data[2])<<16 | uint32(data[3])<<24
		h = bits.RotateLeft32(h^scramble(k), 13)*5 + 0xe6546b64
	}
	var tail uint32
	for i, b := range data {
		tail |= uint32(b) << (8 * i)
	}
	h ^= scramble(tail) ^ n
	h = (h ^ h>>16) * 0x85ebca6b
	h = (h ^ h>>13) * 0xc2b2ae35
	return h ^ h>>16
}

func bytesOf(x uint64, n int) []byte {
	var out []byte
	for i := range n {
		out = append(out, byte(x>>(8*i)))
	}
	return out
}

// The published test vectors hold the test's own reference to the published hash.
func TestReference(t *testing.T) {
	for text, want := range map[string]uint32{
		"": 0, "test": 0xba6bd213, "Hello, world!": 0xc0363e43, "The quick brown fox jumps over the lazy dog": 0x2e4ff723,
		"\x21\x43\x65\x87": 0xf55b516b, "\x21\x43\x65": 0x7e4a8634, "\x21\x43": 0xa0f7b07a, "\x21": 0x72661cf4, "\xff\xff\xff\xff": 0x76293b50, "\x00\x00\x00\x00": 0x2362f9de,
	} {
		if h := published([]byte(text)); h != want {
			t.Errorf("%q: %#x, want %#x", text, h, want)
		}
	}
}

// 3.1
func TestMixK(t *testing.T) {
	for _, c := range []struct{ k, want uint32 }{
		{0, 0}, {1, 0xc3539a5d}, {2, 0xebddb4ba}, {1 << 31, 0xcd64c000}, {most, 0xbbeeb010},
	} {
		if h := murmur.MixK(c.k); h != c.want {
			t.Errorf("MixK(%#x): %#x, want %#x", c.k, h, c.want)
		}
	}
}

// 3.1
func TestMixH(t *testing.T) {
	for _, c := range []struct{ h, k, want uint32 }{
		{0, 0, 0xe6546b64}, {1, 0, 0xe6550b64}, {0, 1, 0xe6550b64}, {most, 0, 0xe6546b5f}, {most, most, 0xe6546b64}, {0x12345678, 0x9abcdef0, 0x3ba9c0b9},
	} {
		if h := murmur.MixH(c.h, c.k); h != c.want {
			t.Errorf("MixH(%#x, %#x): %#x, want %#x", c.h, c.k, h, c.want)
		}
	}
}

// 3.1
func TestFin(t *testing.T) {
	for _, c := range []struct{ h, n, want uint32 }{
		{0, 0, 0}, {1, 0, 0x514e28b7}, {0, 1, 0x514e28b7}, {most, 0, 0x81f16f39}, {most, most, 0}, {0x12345678, 0x9abcdef0, 0x1d6ef8ae},
	} {
		if h := murmur.Fin(c.h, c.n); h != c.want {
			t.Errorf("Fin(%#x, %#x): %#x, want %#x", c.h, c.n, h, c.want)
		}
	}
}

// 3.1
func TestInt(t *testing.T) {
	for x, want := range map[int32]uint32{
		0: 0, 1: 4226891818, -1: 1982413648, 97: 1455541201, 1<<31 - 1: 2641277762, -1 << 31: 2576668564,
	} {
		if h := murmur.Int(x); h != want {
			t.Errorf("Int(%d): %d, want %d", x, h, want)
		}
	}
	s := sample.New(1)
	for range 2000 {
		x := word(s)
		if h := murmur.Int(int32(x)); x != 0 && h != published(bytesOf(uint64(x), 4)) {
			t.Errorf("Int(%d): %d is not the published one", int32(x), h)
		}
	}
}

// 3.1
func TestLong(t *testing.T) {
	for x, want := range map[int64]uint32{
		0: 0, 1: 1392991556, 2: 3323962100, 3: 2738575283, 42: 1871679806, -1: 1651860712,
		1<<31 - 1: 1819228606, 1 << 31: 386683422, -1 << 31: 2221932504, 1 << 32: 987256456, -1 << 32: 3489079670, 1<<32 - 1: 689913327,
		1<<63 - 1: 2188461247, -1 << 63: 1366273829,
	} {
		if h := murmur.Long(x); h != want {
			t.Errorf("Long(%d): %d, want %d", x, h, want)
		}
	}
	s := sample.New(2)
	for range 2000 {
		x := uint64(word(s))<<32 | uint64(word(s))
		if h := murmur.Long(int64(x)); x != 0 && h != published(bytesOf(x, 8)) {
			t.Errorf("Long(%d): %d is not the published one", int64(x), h)
		}
	}
}

// 3.2
func TestUnits(t *testing.T) {
	for _, c := range []struct {
		l    []uint16
		want uint32
	}{
		{nil, 0}, {[]uint16{}, 0}, {[]uint16{0}, 0x30f4c306}, {[]uint16{0xffff}, 0x8619621f}, {[]uint16{0x4321}, 0xa0f7b07a},
		{[]uint16{0x4321, 0x8765}, 0xf55b516b}, {[]uint16{1, 2}, 0xd6fb7dc5}, {[]uint16{2, 1}, 0x91c8e865}, {[]uint16{0xffff, 0xffff}, 0x76293b50},
		{[]uint16{1, 2, 3}, 0x6a9db1c8}, {slices.Repeat([]uint16{0xffff}, 5), 0xf0405b4c},
	} {
		if h := murmur.Units(c.l); h != c.want {
			t.Errorf("Units(%v): %#x, want %#x", c.l, h, c.want)
		}
	}
	s := sample.New(3)
	for n := range 300 {
		l := units(s, n)
		var data []byte
		for _, u := range l {
			data = append(data, byte(u), byte(u>>8))
		}
		if h := murmur.Units(l); h != published(data) {
			t.Errorf("Units of %d: %#x is not the published one", n, h)
		}
	}
}

// 3.2
func TestJava(t *testing.T) {
	for _, c := range []struct {
		l    []uint16
		want int32
	}{
		{nil, 0}, {[]uint16{}, 0}, {[]uint16{0}, 0}, {[]uint16{97}, 97}, {[]uint16{97, 98}, 3105}, {[]uint16{98, 97}, 3135}, {[]uint16{0xffff}, 0xffff},
		{[]uint16{0xd834, 0xdd1e}, 1772394}, {[]uint16{104, 101, 108, 108, 111}, 99162322}, {slices.Repeat([]uint16{'z'}, 256), -172253184},
		{slices.Repeat([]uint16{0xffff}, 4), 2017429440},
	} {
		if h := murmur.Java(c.l); h != c.want {
			t.Errorf("Java(%v): %d, want %d", c.l, h, c.want)
		}
	}
}

// 3.3
func TestColl(t *testing.T) {
	for _, c := range []struct {
		h    uint32
		n    int
		want uint32
	}{
		{0, 0, 4279838538}, {1, 0, 2277397642}, {1, 1, 1978132887}, {most, 3, 4098500510},
		{0, 1 << 32, 4279838538}, {0, 1<<32 + 1, 2610738074}, {0, -1, 2680757138}, {0, most, 2680757138}, {0, -1 << 63, 4279838538}, {0, 1<<63 - 1, 2680757138},
	} {
		if h := murmur.Coll(c.h, c.n); h != c.want {
			t.Errorf("Coll(%d, %d): %d, want %d", c.h, c.n, h, c.want)
		}
	}
}

// 3.3
func TestOrdered(t *testing.T) {
	for _, c := range []struct {
		l    []uint32
		want uint32
	}{
		{nil, 2277397642}, {[]uint32{}, 2277397642}, {[]uint32{0}, 965192274}, {[]uint32{1, 2}, 1185709346}, {[]uint32{2, 1}, 3749121880}, {[]uint32{most, most, most}, 1660726083},
		{[]uint32{murmur.Long(1), murmur.Long(2), murmur.Long(3)}, 736442005},
	} {
		if h := murmur.Ordered(c.l); h != c.want {
			t.Errorf("Ordered(%v): %d, want %d", c.l, h, c.want)
		}
	}
}

// 3.3
func TestUnordered(t *testing.T) {
	for _, c := range []struct {
		l    []uint32
		want uint32
	}{
		{nil, 4279838538}, {[]uint32{}, 4279838538}, {[]uint32{0}, 2610738074}, {[]uint32{1, 2}, 2543559979}, {[]uint32{most, most, most}, 2734705908},
		{[]uint32{murmur.Long(1), murmur.Long(2), murmur.Long(3)}, 439094965},
	} {
		if h := murmur.Unordered(c.l); h != c.want {
			t.Errorf("Unordered(%v): %d, want %d", c.l, h, c.want)
		}
	}
}

// 3.4
func TestUnorderedInAnyOrder(t *testing.T) {
	s := sample.New(4)
	for range 500 {
		l := words(s, s.Below(20))
		want := murmur.Unordered(l)
		for i := range l {
			j := s.Below(i + 1)
			l[i], l[j] = l[j], l[i]
		}
		if h := murmur.Unordered(l); h != want {
			t.Errorf("Unordered(%v): %d, in another order %d", l, h, want)
		}
		slices.Reverse(l)
		if h := murmur.Unordered(l); h != want {
			t.Errorf("Unordered(%v): %d, turned about %d", l, h, want)
		}
	}
}

// inverse is what undoes the multiplication by an odd number: each round doubles how many of its low bits are right.
func inverse(x uint32) uint32 {
	y := x
	for range 5 {
		y *= 2 - x*y
	}
	return y
}

func unMixK(k uint32) uint32 {
	return bits.RotateLeft32(k*inverse(0x1b873593), -15) * inverse(0xcc9e2d51)
}

func unFin(h, n uint32) uint32 {
	h ^= h >> 16
	h *= inverse(0xc2b2ae35)
	h ^= h>>13 ^ h>>26
	h *= inverse(0x85ebca6b)
	h ^= h >> 16
	return h ^ n
}

// 3.4: what can be undone is one to one.
func TestOneToOne(t *testing.T) {
	s := sample.New(5)
	for range 5000 {
		x, n := word(s), word(s)
		if y := unMixK(murmur.MixK(x)); y != x {
			t.Errorf("MixK(%#x) is that of %#x", x, y)
		}
		if y := unFin(murmur.Fin(x, n), n); y != x {
			t.Errorf("Fin(%#x, %#x) is that of %#x", x, n, y)
		}
	}
}

// 3.4: no two of many words in a row, at either end and in the middle, meet.
func TestNoTwoMeet(t *testing.T) {
	for _, from := range []uint32{0, 1<<31 - 1<<15, most - 1<<16} {
		var mixed, ended []uint32
		for x := range uint32(1 << 16) {
			mixed = append(mixed, murmur.MixK(from+x))
			ended = append(ended, murmur.Fin(from+x, 7))
		}
		for _, l := range [][]uint32{mixed, ended} {
			slices.Sort(l)
			if n := len(slices.Compact(l)); n != 1<<16 {
				t.Errorf("from %#x on: %d of %d", from, n, 1<<16)
			}
		}
	}
}

// R3: lists stay as they are, with the room behind them.
func TestArgumentsStay(t *testing.T) {
	s := sample.New(6)
	for n := range 20 {
		l, m := units(s, n+3), words(s, n+3)
		wasL, wasM := slices.Clone(l), slices.Clone(m)
		murmur.Units(l[:n])
		murmur.Java(l[:n])
		murmur.Ordered(m[:n])
		murmur.Unordered(m[:n])
		if !slices.Equal(l, wasL) || !slices.Equal(m, wasM) {
			t.Errorf("%d: changed", n)
		}
	}
}

// P1
func TestLongLists(t *testing.T) {
	l, m := make([]uint16, 1<<22+1), make([]uint32, 1<<22+1)
	if h := murmur.Java(l); h != 0 {
		t.Errorf("Java: %d", h)
	}
	if h := murmur.Units(l); h != published(make([]byte, 2*len(l))) {
		t.Errorf("Units: %d", h)
	}
	if h := murmur.Unordered(m); h != murmur.Coll(0, len(m)) {
		t.Errorf("Unordered: %d", h)
	}
	power := uint32(1)
	for range m {
		power *= 31
	}
	if h := murmur.Ordered(m); h != murmur.Coll(power, len(m)) {
		t.Errorf("Ordered: %d", h)
	}
}
