package rrb_test

import (
	"slices"
	"testing"

	"spinney/api"
	"spinney/rrb"
	"spinney/sample"
)

func TestJoin(t *testing.T) {
	check(t, must(t)(rrb.Join()), nil)
	check(t, must(t)(rrb.Join(nil)), nil)
	check(t, must(t)(rrb.Join(nil, rrb.New(), &rrb.Vec{})), nil)
	a, b, c := sample.Numbers(40), sample.Numbers(3), sample.Numbers(1100)
	x, y, z := of(t, a), of(t, b), of(t, c)
	check(t, must(t)(rrb.Join(x)), a)
	check(t, must(t)(rrb.Join(x, nil, y, z, x)), slices.Concat(a, b, c, a))
	check(t, must(t)(rrb.Join(z, y, rrb.New(), y, z)), slices.Concat(c, b, b, c))
	most := of(t, sample.Numbers(api.MaxLen))
	check(t, must(t)(rrb.Join(nil, most, nil)), sample.Numbers(api.MaxLen))
	refused(t, api.ErrLong)(rrb.Join(most, of(t, b[:1])))
	refused(t, api.ErrLong)(rrb.Join(of(t, b[:1]), most, nil))
}

func TestFirstAndRest(t *testing.T) {
	for _, n := range []int{0, 1, 2, 31, 32, 33, 65, 1025, 2000} {
		plain := sample.Numbers(n)
		v := of(t, plain)
		for _, i := range append(nearby(n), n) {
			check(t, must(t)(v.First(i)), plain[:i])
			check(t, must(t)(v.Rest(i)), plain[i:])
		}
		for _, i := range sample.Beyond(n) {
			if i < 0 || i > n {
				refused(t, api.ErrRange)(v.First(i))
				refused(t, api.ErrRange)(v.Rest(i))
			}
		}
		check(t, v, plain)
	}
	var v *rrb.Vec
	check(t, must(t)(v.First(0)), nil)
	check(t, must(t)(v.Rest(0)), nil)
}

func TestTurned(t *testing.T) {
	for _, n := range lengths() {
		plain := sample.Numbers(n)
		v := of(t, plain)
		slices.Reverse(plain)
		check(t, v.Turned(), plain)
	}
	var v *rrb.Vec
	check(t, v.Turned(), nil)
}

func TestSame(t *testing.T) {
	v := of(t, sample.Numbers(40))
	other := must(t)(v.Set(39, none()))
	if !rrb.Same(v, v) || !rrb.Same(v, of(t, sample.Numbers(40))) || !rrb.Same(nil, rrb.New()) {
		t.Errorf("not the same")
	}
	for _, w := range []*rrb.Vec{nil, other, of(t, sample.Numbers(39)), of(t, sample.Numbers(41))} {
		if rrb.Same(v, w) || rrb.Same(w, v) {
			t.Errorf("the same: %s", short(w.Items()))
		}
	}
}
