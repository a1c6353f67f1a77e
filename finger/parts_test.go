package finger_test

import (
	"slices"
	"testing"

	"spinney/api"
	"spinney/finger"
	"spinney/model"
	"spinney/sample"
)

func TestJoin(t *testing.T) {
	check(t, must(t)(finger.Join()))
	check(t, must(t)(finger.Join(nil)))
	check(t, must(t)(finger.Join(nil, finger.New(), &finger.Deque{})))
	a, b, c := sample.Numbers(40), sample.Numbers(3), sample.Numbers(1100)
	x, y, z := of(t, a), of(t, b), of(t, c)
	check(t, must(t)(finger.Join(x)), a)
	check(t, must(t)(finger.Join(x, nil, y, z, x)), a, b, c, a)
	check(t, must(t)(finger.Join(z, y, finger.New(), y, z)), c, b, b, c)
	most := of(t, sample.Numbers(api.MaxLen))
	check(t, must(t)(finger.Join(nil, most, nil)), sample.Numbers(api.MaxLen))
	refused(t, api.ErrLong)(finger.Join(most, of(t, b[:1])))
	refused(t, api.ErrLong)(finger.Join(of(t, b[:1]), most, nil))
	refused(t, api.ErrLong)(finger.Join(slices.Repeat([]*finger.Deque{most}, 1000)...))
	check(t, x, a)
	check(t, y, b)
	check(t, z, c)
}

func TestCut(t *testing.T) {
	for _, n := range []int{0, 1, 2, 8, 9, 33, 65, 1025} {
		plain := sample.Numbers(n)
		d := of(t, plain)
		for _, at := range append(nearby(n), n) {
			head, tail, e := d.Cut(at)
			if e != api.OK {
				t.Fatalf("Cut(%d): %v", at, e)
			}
			check(t, head, plain[:at])
			check(t, tail, plain[at:])
		}
		for _, at := range noPlaces(n) {
			if head, tail, e := d.Cut(at); at != n && (head != nil || tail != nil || e != api.ErrRange) {
				t.Errorf("of %d: Cut(%d): %v, %v, %v", n, at, head, tail, e)
			}
		}
		check(t, d, plain)
	}
	var d *finger.Deque
	head, tail, _ := d.Cut(0)
	check(t, head)
	check(t, tail)
}

func TestTurned(t *testing.T) {
	for _, n := range lengths() {
		plain := sample.Numbers(n)
		d := of(t, plain)
		check(t, d.Turned(), turned(plain))
		check(t, d, plain)
	}
	var d *finger.Deque
	check(t, d.Turned())
}

func TestSame(t *testing.T) {
	d := of(t, sample.Numbers(40))
	other := must(t)(d.Set(39, none()))
	if !finger.Same(d, d) || !finger.Same(d, of(t, sample.Numbers(40))) || !finger.Same(nil, finger.New()) {
		t.Errorf("not the same")
	}
	for _, w := range []*finger.Deque{nil, other, of(t, sample.Numbers(39)), of(t, sample.Numbers(41))} {
		if finger.Same(d, w) || finger.Same(w, d) {
			t.Errorf("the same: %s", short(w.Items()))
		}
	}
}

// weights are those of a part's items, from its front on; checked on the way: how many they are, and their sum.
func weights(t *testing.T, p finger.Part) []int64 {
	t.Helper()
	below := p.Parts()
	if len(below) == 0 && p.Len() == 1 {
		return []int64{p.Weight()}
	}
	var out []int64
	for _, b := range below {
		if b.Len() == 0 {
			t.Fatalf("a part without an item")
		}
		out = append(out, weights(t, b)...)
	}
	var sum int64
	for _, w := range out {
		sum += w
	}
	if p.Len() != len(out) || p.Weight() != sum {
		t.Fatalf("a part of %d items that weigh %d has %d that weigh %d", p.Len(), p.Weight(), len(out), sum)
	}
	return out
}

// The parts of a deque are its items, and each tells how heavy they are.
func TestParts(t *testing.T) {
	s := sample.New(1)
	for _, n := range []int{0, 1, 2, 8, 9, 33, 200, 1000} {
		plain := s.Values(n, 1)
		for i := range plain {
			if s.Below(2) == 0 {
				plain[i] = num(int64(s.Below(api.MaxLen+10) - 5))
			}
		}
		d := of(t, plain)
		for i, w := range weights(t, d.Whole()) {
			if want := model.Weight(plain[i : i+1]); w != want {
				t.Fatalf("%v weighs %d, want %d", plain[i], w, want)
			}
		}
		if d.Whole().Len() != n || d.Whole().Weight() != model.Weight(plain) {
			t.Errorf("the whole of %d has %d, which weigh %d", n, d.Whole().Len(), d.Whole().Weight())
		}
		// The list of parts is new memory.
		clear(d.Whole().Parts())
		for _, below := range d.Whole().Parts() {
			clear(below.Parts())
		}
		check(t, d, plain)
	}
	for _, d := range []*finger.Deque{nil, {}, finger.New()} {
		if p := d.Whole(); p.Len() != 0 || p.Weight() != 0 || len(p.Parts()) != 0 {
			t.Errorf("the whole of none: %d, %d, %v", p.Len(), p.Weight(), p.Parts())
		}
	}
}
