package split_test

import (
	"math"
	"slices"
	"testing"

	"spinney/api"
	"spinney/finger"
	"spinney/model"
	"spinney/sample"
	"spinney/split"
)

// some is a deque of random items, and a plain list of them.
func some(t *testing.T, s *sample.Source) (*finger.Deque, []api.Value) {
	t.Helper()
	l := weighed(s, s.Below(3)*s.Below(40)+s.Below(3))
	if s.Below(2) == 0 {
		return of(t, l), l
	}
	return pieced(t, s, l), l
}

// same asks that two deques have the same items, and one of them those of plain lists.
func same(t *testing.T, a, b *finger.Deque, plain ...[]api.Value) {
	t.Helper()
	check(t, a, plain...)
	if !split.Equal(a, b) {
		t.Fatalf("%s, and %s", short(a.Items()), short(b.Items()))
	}
}

// 18.5, P9: joining is associative, the empty deque says nothing in it, weights add up, and it is turned about part by part.
func TestLawsOfJoining(t *testing.T) {
	s := sample.New(1)
	for range 300 {
		a, x := some(t, s)
		b, y := some(t, s)
		c, z := some(t, s)
		ab, bc := must(t)(split.Concat(a, b)), must(t)(split.Concat(b, c))
		same(t, must(t)(split.Concat(ab, c)), must(t)(split.Concat(a, bc)), x, y, z)
		same(t, must(t)(split.Concat(a, finger.New())), a, x)
		same(t, must(t)(split.Concat(finger.New(), a)), a, x)
		if split.Weight(ab) != split.Weight(a)+split.Weight(b) {
			t.Fatalf("%d and %d weigh %d", split.Weight(a), split.Weight(b), split.Weight(ab))
		}
		same(t, split.Reverse(ab), must(t)(split.Concat(split.Reverse(b), split.Reverse(a))), turned(slices.Concat(x, y)))
	}
}

// 18.5, P9: what is cut is joined again, by a place and by a weight; what was put in is taken out; a deque goes round and back.
func TestLawsOfCutting(t *testing.T) {
	s := sample.New(2)
	for range 300 {
		d, plain := some(t, s)
		n := len(plain)
		at := s.Below(n + 1)
		head, tail, _ := split.Cut(d, at)
		same(t, must(t)(split.Concat(head, tail)), d, plain)
		if split.Weight(head)+split.Weight(tail) != split.Weight(d) {
			t.Fatalf("parts weigh %d and %d of %d", split.Weight(head), split.Weight(tail), split.Weight(d))
		}
		head, tail, _ = split.Heavy(d, model.Weight(plain[:at]))
		same(t, must(t)(split.Concat(head, tail)), d, plain)
		from := s.Below(n + 1)
		to := from + s.Below(n-from+1)
		part := must(t)(split.Slice(d, from, to))
		first := s.Below(to - from + 1)
		last := first + s.Below(to-from-first+1)
		same(t, must(t)(split.Slice(part, first, last)), must(t)(split.Slice(d, from+first, from+last)), plain[from+first:from+last])
		x := s.Value(2)
		left, y, e := split.Remove(must(t)(split.Insert(d, at, x)), at)
		if e != api.OK || !sample.Same(x, y) {
			t.Fatalf("Remove: %v, %v", y, e)
		}
		same(t, left, d, plain)
	}
}

// 18.5: Rotate by k and then by -k is the deque, whatever k is; and by k and by m is by both.
func TestLawsOfRotating(t *testing.T) {
	s := sample.New(3)
	for range 200 {
		d, plain := some(t, s)
		k, m := s.Below(200)-100, s.Below(200)-100
		for _, k := range []int{k, 0, 1, len(plain), math.MaxInt, -math.MaxInt, math.MinInt + 1} {
			same(t, split.Rotate(split.Rotate(d, k), -k), d, plain)
		}
		same(t, split.Rotate(split.Rotate(d, k), m), split.Rotate(d, k+m), split.Rotate(d, k+m).Items())
		same(t, split.Reverse(split.Reverse(d)), d, plain)
		same(t, split.Reverse(split.Rotate(d, k)), split.Rotate(split.Reverse(d), -k), turned(split.Rotate(d, k).Items()))
	}
}

// version is a deque, and what it told when it was made.
type version struct {
	d     *finger.Deque
	plain []api.Value
}

// changed is a deque made of two by one call, of plain lists likewise.
func (r version) changed(t *testing.T, s *sample.Source, other version) version {
	t.Helper()
	n := len(r.plain)
	at := s.Below(n + 1)
	to := at + s.Below(n-at+1)
	x := weighed(s, 1)
	kind := s.Below(11)
	if at == n && kind >= 8 {
		kind = 0
	}
	switch kind {
	case 0:
		return version{must(t)(split.Concat(r.d, other.d)), slices.Concat(r.plain, other.plain)}
	case 1:
		return version{must(t)(split.Slice(r.d, at, to)), r.plain[at:to]}
	case 2:
		head, tail, _ := split.Cut(r.d, at)
		return version{must(t)(split.Concat(tail, head)), slices.Concat(r.plain[at:], r.plain[:at])}
	case 3:
		return version{must(t)(split.Insert(r.d, at, x[0])), slices.Concat(r.plain[:at], x, r.plain[at:])}
	case 4:
		return version{split.Rotate(r.d, at-2*n), slices.Concat(r.plain[at:], r.plain[:at])}
	case 5:
		return version{split.Reverse(r.d), turned(r.plain)}
	case 6:
		return version{must(t)(r.d.Front(x[0])), slices.Concat(x, r.plain)}
	case 7:
		head, tail, _ := split.Heavy(r.d, model.Weight(r.plain[:at]))
		cut, _ := model.Above(r.plain, model.Weight(r.plain[:at]))
		return version{must(t)(split.Concat(tail, head)), slices.Concat(r.plain[cut:], r.plain[:cut])}
	case 8:
		left, _, _ := split.Remove(r.d, at)
		return version{left, slices.Concat(r.plain[:at], r.plain[at+1:])}
	case 9:
		rest, _, _ := r.d.PopBack()
		return version{rest, r.plain[:n-1]}
	}
	return version{must(t)(r.d.Set(at, x[0])), slices.Concat(r.plain[:at], x, r.plain[at+1:])}
}

// 18.6, P2, P3: deques are made of one another; each tells for ever what it told.
func TestVersions(t *testing.T) {
	for seed := range uint64(8) {
		s := sample.New(seed)
		var versions []version
		for _, n := range []int{0, 1, 2, 8, 9, 33, 70, 200} {
			l := weighed(s, n)
			versions = append(versions, version{of(t, l), l})
		}
		for range 300 {
			made := versions[s.Below(len(versions))].changed(t, s, versions[s.Below(len(versions))])
			if len(made.plain) < 2000 {
				check(t, made.d, made.plain)
				versions = append(versions, made)
			}
		}
		for _, r := range versions {
			check(t, r.d, r.plain)
			for range 3 {
				checkWeight(t, r.d, int64(s.Below(int(model.Weight(r.plain))+2)), r.plain)
			}
		}
	}
}

// 18.6, P6: long chains of all calls, of one deque.
func TestLongChains(t *testing.T) {
	for seed := range uint64(4) {
		s := sample.New(100 + seed)
		l := weighed(s, 1000)
		start := version{of(t, l), l}
		now := start
		for turn := range 3000 {
			at := s.Below(len(start.plain))
			to := at + s.Below(min(60, len(start.plain)-at+1))
			piece := version{must(t)(split.Slice(start.d, at, to)), start.plain[at:to]}
			if made := now.changed(t, s, piece); len(made.plain) > 0 && len(made.plain) < 2000 {
				now = made
			}
			if len(now.plain) < 10 {
				now = version{must(t)(split.Concat(now.d, start.d)), slices.Concat(now.plain, start.plain)}
			}
			if now.d.Len() != len(now.plain) || !model.DequeFits(len(now.plain), now.d.Height()) {
				t.Fatalf("turn %d: %d items of %d, %d levels", turn, now.d.Len(), len(now.plain), now.d.Height())
			}
			if turn%100 == 0 {
				check(t, now.d, now.plain)
			}
		}
		check(t, now.d, now.plain)
		check(t, start.d, start.plain)
	}
}

// 18.6: each call again and again on what it told itself, one by one, up to many and down to none.
func TestOneByOne(t *testing.T) {
	const most = 2000
	places := []func(n int) int{func(int) int { return 0 }, func(n int) int { return n }, func(n int) int { return n / 2 }, func(n int) int { return n * 2 / 3 }}
	for _, place := range places {
		d := finger.New()
		var plain []api.Value
		for n := range most {
			x := num(int64(n))
			d, plain = must(t)(split.Insert(d, place(n), x)), slices.Insert(plain, place(n), x)
			if !model.DequeFits(n+1, d.Height()) {
				t.Fatalf("%d items, %d levels", n+1, d.Height())
			}
		}
		check(t, d, plain)
		for n := most - 1; n >= 0; n-- {
			w, x, e := split.Remove(d, place(n))
			if e != api.OK || !sample.Same(x, plain[place(n)]) || !model.DequeFits(n, w.Height()) {
				t.Fatalf("%d items, %d levels: %v, %v", n, w.Height(), x, e)
			}
			d, plain = w, slices.Delete(plain, place(n), place(n)+1)
			if n%100 == 0 {
				check(t, d, plain)
			}
		}
	}
}

// 18.6: pieces of one length, joined from the front and from the back, then cut by weight and turned round again and again down to one item.
func TestPieces(t *testing.T) {
	for _, n := range []int{1, 2, 3, 4, 5, 8, 9, 15, 33, 100} {
		piece := slices.Repeat(ints(1, 0, 2), n)[:n]
		part := of(t, piece)
		ahead, behind := finger.New(), finger.New()
		for range 3000 / n {
			ahead, behind = must(t)(split.Concat(part, ahead)), must(t)(split.Concat(behind, part))
			if !model.DequeFits(ahead.Len(), ahead.Height()) || !model.DequeFits(behind.Len(), behind.Height()) {
				t.Fatalf("%d items: %d and %d levels", ahead.Len(), ahead.Height(), behind.Height())
			}
		}
		plain := slices.Repeat(piece, 3000/n)
		same(t, ahead, behind, plain)
		d := ahead
		for len(plain) > 1 {
			w := split.Weight(d) - split.Weight(d)/8 - 2
			if w < 0 {
				break
			}
			cut, _ := model.Above(plain, w)
			head, _, e := split.Heavy(d, w)
			if e != api.OK || head.Len() != cut || !model.DequeFits(cut, head.Height()) {
				t.Fatalf("Heavy of %d: %d of %d levels, %v, want %d", len(plain), head.Len(), head.Height(), e, cut)
			}
			d, plain = split.Rotate(head, 5), plain[:cut]
			if cut > 0 {
				plain = slices.Concat(plain[5%cut:], plain[:5%cut])
			}
			check(t, d, plain)
		}
	}
}

// 18.6: turned round again and again, by one and by many.
func TestRounds(t *testing.T) {
	for _, n := range []int{1, 2, 3, 8, 9, 100, 1000} {
		plain := numbered(0, n)
		for _, k := range []int{1, -1, 2, 7, n / 2, n - 1, 12345} {
			d := of(t, plain)
			at := 0
			for range 1000 {
				d = split.Rotate(d, k)
				at = ((at+k)%n + n) % n
				if first, _ := d.At(0); d.Len() != n || !model.DequeFits(n, d.Height()) || first.Num != int64(at) {
					t.Fatalf("%d items by %d: %d, %d levels, first %v", n, k, d.Len(), d.Height(), first)
				}
			}
			check(t, d, plain[at:], plain[:at])
		}
	}
}
