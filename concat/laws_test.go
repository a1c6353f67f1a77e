package concat_test

import (
	"slices"
	"testing"

	"spinney/api"
	"spinney/concat"
	"spinney/model"
	"spinney/rrb"
	"spinney/sample"
)

// some is a vector of random items, and a plain list of them.
func some(t *testing.T, s *sample.Source) (*rrb.Vec, []api.Value) {
	t.Helper()
	l := s.Values(s.Below(3)*s.Below(40)+s.Below(3), 1)
	if s.Below(2) == 0 {
		return of(t, l), l
	}
	return relaxed(t, s, l), l
}

// same asks that two vectors have the same items, and one of them those of plain lists.
func same(t *testing.T, a, b *rrb.Vec, plain ...[]api.Value) {
	t.Helper()
	check(t, a, plain...)
	if !concat.Equal(a, b) {
		t.Fatalf("%s, and %s", short(a.Items()), short(b.Items()))
	}
}

// 12.5, P9: joining is associative, the empty vector says nothing in it, and it is turned about part by part.
func TestLawsOfJoining(t *testing.T) {
	s := sample.New(1)
	for range 300 {
		a, x := some(t, s)
		b, y := some(t, s)
		c, z := some(t, s)
		ab, bc := must(t)(concat.Concat(a, b)), must(t)(concat.Concat(b, c))
		same(t, must(t)(concat.Concat(ab, c)), must(t)(concat.Concat(a, bc)), x, y, z)
		same(t, must(t)(concat.All([]*rrb.Vec{a, b, c})), must(t)(concat.Concat(ab, c)), x, y, z)
		same(t, must(t)(concat.Concat(a, rrb.New())), a, x)
		same(t, must(t)(concat.Concat(rrb.New(), a)), a, x)
		turned := slices.Concat(x, y)
		slices.Reverse(turned)
		same(t, concat.Reverse(ab), must(t)(concat.Concat(concat.Reverse(b), concat.Reverse(a))), turned)
	}
}

// 12.5, P9: what is cut is joined again, a part of a part is a part, and what was put in is taken out.
func TestLawsOfCutting(t *testing.T) {
	s := sample.New(2)
	for range 300 {
		v, plain := some(t, s)
		n := len(plain)
		at := s.Below(n + 1)
		head, tail, _ := concat.Cut(v, at)
		same(t, must(t)(concat.Concat(head, tail)), v, plain)
		from := s.Below(n + 1)
		to := from + s.Below(n-from+1)
		part := must(t)(concat.Slice(v, from, to))
		first := s.Below(to - from + 1)
		last := first + s.Below(to-from-first+1)
		same(t, must(t)(concat.Slice(part, first, last)), must(t)(concat.Slice(v, from+first, from+last)), plain[from+first:from+last])
		x := s.Value(2)
		left, y, e := concat.Remove(must(t)(concat.Insert(v, at, x)), at)
		if e != api.OK || !sample.Same(x, y) {
			t.Fatalf("Remove: %v, %v", y, e)
		}
		same(t, left, v, plain)
	}
}

// version is a vector, and what it told when it was made.
type version struct {
	v     *rrb.Vec
	plain []api.Value
}

// changed is a vector made of two by one call, of plain lists likewise.
func (r version) changed(t *testing.T, s *sample.Source, other version) version {
	t.Helper()
	n := len(r.plain)
	at := s.Below(n + 1)
	to := at + s.Below(n-at+1)
	switch s.Below(8) {
	case 0:
		return version{must(t)(concat.Concat(r.v, other.v)), slices.Concat(r.plain, other.plain)}
	case 1:
		return version{must(t)(concat.Slice(r.v, at, to)), r.plain[at:to]}
	case 2:
		head, tail, _ := concat.Cut(r.v, at)
		return version{must(t)(concat.Concat(tail, head)), slices.Concat(r.plain[at:], r.plain[:at])}
	case 3:
		x := s.Value(1)
		return version{must(t)(concat.Insert(r.v, at, x)), slices.Concat(r.plain[:at], []api.Value{x}, r.plain[at:])}
	case 4:
		if at == n {
			return r
		}
		left, _, _ := concat.Remove(r.v, at)
		return version{left, slices.Concat(r.plain[:at], r.plain[at+1:])}
	case 5:
		return version{must(t)(concat.Splice(r.v, at, to, other.v)), slices.Concat(r.plain[:at], other.plain, r.plain[to:])}
	case 6:
		x := s.Value(1)
		return version{must(t)(r.v.Push(x)), append(slices.Clone(r.plain), x)}
	}
	if at == n {
		return r
	}
	x := s.Value(1)
	out := slices.Clone(r.plain)
	out[at] = x
	return version{must(t)(r.v.Set(at, x)), out}
}

// 12.6, P3: vectors are made of one another; each tells for ever what it told.
func TestVersions(t *testing.T) {
	for seed := range uint64(8) {
		s := sample.New(seed)
		var versions []version
		for _, n := range []int{0, 1, 31, 33, 70, 200} {
			l := s.Values(n, 1)
			versions = append(versions, version{of(t, l), l})
		}
		for range 250 {
			made := versions[s.Below(len(versions))].changed(t, s, versions[s.Below(len(versions))])
			if len(made.plain) < 2000 {
				check(t, made.v, made.plain)
				versions = append(versions, made)
			}
		}
		for _, r := range versions {
			check(t, r.v, r.plain)
		}
	}
}

// 12.6, P6: long chains of joining, cutting, putting in and taking out, of one vector.
func TestLongChains(t *testing.T) {
	for seed := range uint64(4) {
		s := sample.New(100 + seed)
		l := numbered(0, 3000)
		start := version{of(t, l), l}
		now := start
		for turn := range 6000 {
			at := s.Below(len(start.plain))
			to := at + s.Below(min(60, len(start.plain)-at+1))
			piece := version{must(t)(concat.Slice(start.v, at, to)), start.plain[at:to]}
			if made := now.changed(t, s, piece); len(made.plain) > 0 && len(made.plain) < 5000 {
				now = made
			}
			if len(now.plain) < 10 {
				now = version{must(t)(concat.Concat(now.v, start.v)), slices.Concat(now.plain, start.plain)}
			}
			if now.v.Len() != len(now.plain) || !model.HeightFits(len(now.plain), now.v.Height()) {
				t.Fatalf("turn %d: %d items of %d, %d levels", turn, now.v.Len(), len(now.plain), now.v.Height())
			}
			if turn%200 == 0 {
				check(t, now.v, now.plain)
			}
		}
		check(t, now.v, now.plain)
		check(t, start.v, start.plain)
	}
}

// 12.6: one by one at the front, at the back and in the middle, up to many and down to none.
func TestOneByOne(t *testing.T) {
	const most = 3000
	places := []func(n int) int{func(int) int { return 0 }, func(n int) int { return n }, func(n int) int { return n / 2 }, func(n int) int { return n * 2 / 3 }}
	for _, place := range places {
		v := rrb.New()
		var plain []api.Value
		for n := range most {
			x := num(int64(n))
			v, plain = must(t)(concat.Insert(v, place(n), x)), slices.Insert(plain, place(n), x)
			if !model.HeightFits(n+1, v.Height()) {
				t.Fatalf("%d items, %d levels", n+1, v.Height())
			}
		}
		check(t, v, plain)
		for n := most - 1; n >= 0; n-- {
			w, x, e := concat.Remove(v, place(n))
			if e != api.OK || !sample.Same(x, plain[place(n)]) || !model.HeightFits(n, w.Height()) {
				t.Fatalf("%d items, %d levels: %v, %v", n, w.Height(), x, e)
			}
			v, plain = w, slices.Delete(plain, place(n), place(n)+1)
			if n%100 == 0 {
				check(t, v, plain)
			}
		}
	}
}

// 12.6: pieces of one length, joined from the front and from the back, and cut out of the middle down to one item.
func TestPieces(t *testing.T) {
	for _, n := range []int{1, 2, 5, 15, 16, 17, 31, 32, 33, 100} {
		piece := numbered(0, n)
		part := of(t, piece)
		ahead, behind := rrb.New(), rrb.New()
		for range 4000 / n {
			ahead, behind = must(t)(concat.Concat(part, ahead)), must(t)(concat.Concat(behind, part))
			if !model.HeightFits(ahead.Len(), ahead.Height()) || !model.HeightFits(behind.Len(), behind.Height()) {
				t.Fatalf("%d items: %d and %d levels", ahead.Len(), ahead.Height(), behind.Height())
			}
		}
		plain := slices.Repeat(piece, 4000/n)
		same(t, ahead, behind, plain)
		v := ahead
		for len(plain) > 1 {
			cut := min(17, len(plain)/2)
			plain = plain[cut : len(plain)-max(cut-1, 0)]
			v = must(t)(concat.Slice(v, cut, cut+len(plain)))
			if !model.HeightFits(len(plain), v.Height()) {
				t.Fatalf("%d items, %d levels", len(plain), v.Height())
			}
		}
		check(t, v, plain)
	}
}

// nested are items that hold lists, in memory of their own.
func nested(n int) []api.Value {
	var out []api.Value
	for i := range int64(n) {
		out = append(out, list(num(i), list(num(1), str("x"))))
	}
	return out
}

// R3: what is handed in stays as it is, and is not kept.
func TestArgumentsStay(t *testing.T) {
	a, b := of(t, nested(40)), of(t, nested(3))
	room := []*rrb.Vec{a, nil, b, a, b}
	l := room[:3]
	v := must(t)(concat.All(l))
	if !slices.Equal(room, []*rrb.Vec{a, nil, b, a, b}) {
		t.Errorf("All changed what it was given")
	}
	clear(room)
	check(t, v, nested(40), nested(3))
	x := sample.Roomy(list(num(1), list(num(2))))
	w := must(t)(concat.Insert(a, 20, x))
	if !sample.RoomKept(x.Items) || !sample.Same(x, list(num(1), list(num(2)))) {
		t.Errorf("Insert changed what it was given")
	}
	sample.Spoil(x.Items)
	check(t, w, nested(40)[:20], []api.Value{list(num(1), list(num(2)))}, nested(40)[20:])
}

// R3: writing over what one vector tells changes nothing that another one tells, though they share nodes.
func TestAnswersAreNew(t *testing.T) {
	a := of(t, nested(100))
	head, tail, _ := concat.Cut(a, 37)
	left, x, _ := concat.Remove(a, 50)
	turned := concat.Reverse(a)
	many := must(t)(concat.Repeat(a, 3))
	part := must(t)(concat.Slice(a, 10, 90))
	whole := must(t)(concat.Concat(head, tail))
	sample.Spoil(x.Items)
	for _, v := range []*rrb.Vec{a, head, tail, left, turned, many, part, whole} {
		sample.Spoil(v.Items())
		for i, x := range v.From(0) {
			sample.Spoil(x.Items)
			y, _ := v.Nth(i)
			sample.Spoil(y.Items)
		}
	}
	plain, back := nested(100), nested(100)
	slices.Reverse(back)
	check(t, a, plain)
	check(t, head, plain[:37])
	check(t, tail, plain[37:])
	check(t, left, plain[:50], plain[51:])
	check(t, turned, back)
	check(t, many, plain, plain, plain)
	check(t, part, plain[10:90])
	check(t, whole, plain)
}

// The chapter: vectors are cut and joined without going over all their items. Each item that was copied would take memory anew.
func TestItemsAreNotGoneOver(t *testing.T) {
	const n = 30000
	a, b := of(t, nested(n)), of(t, nested(n))
	one := num(1)
	for name, call := range map[string]func(){
		"Concat": func() { concat.Concat(a, b) },
		"All":    func() { concat.All([]*rrb.Vec{a, b}) },
		"Slice":  func() { concat.Slice(a, 100, n-100) },
		"Cut":    func() { concat.Cut(a, n/2) },
		"Insert": func() { concat.Insert(a, n/2, one) },
		"Remove": func() { concat.Remove(a, n/2) },
		"Splice": func() { concat.Splice(a, n/3, n/2, b) },
		"Repeat": func() { concat.Repeat(a, 2) },
		"Push":   func() { a.Push(one) },
		"Pop":    func() { a.Pop() },
		"Set":    func() { a.Set(n/2, one) },
	} {
		if times := testing.AllocsPerRun(5, call); times > 300 {
			t.Errorf("%s: memory was taken %v times", name, times)
		}
	}
}

// Reverse and Equal go over all items, but copy none: the same item many times over, as great as a value may be, takes no more memory than one of them.
func TestItemsAreShared(t *testing.T) {
	great := []api.Value{list(sample.Numbers(api.MaxParts - 1)...)}
	v := must(t)(concat.Repeat(of(t, great), 20000))
	w := must(t)(concat.All(slices.Repeat([]*rrb.Vec{of(t, great)}, 20000)))
	var turned *rrb.Vec
	if times := testing.AllocsPerRun(1, func() { turned = concat.Reverse(v) }); times > 5000 {
		t.Errorf("Reverse: memory was taken %v times", times)
	}
	if times := testing.AllocsPerRun(1, func() { concat.Equal(v, w) }); times > 5000 {
		t.Errorf("Equal: memory was taken %v times", times)
	}
	if !concat.Equal(v, w) || !concat.Equal(turned, w) {
		t.Errorf("not equal")
	}
}
