package sset_test

import (
	"testing"

	"spinney/api"
	"spinney/model"
	"spinney/sample"
	"spinney/sset"
)

// checkEnds asks for the first and the last member.
func checkEnds(t *testing.T, s *sset.Set, first, last api.Value, want api.Errno) {
	t.Helper()
	x, e := s.First()
	y, f := s.Last()
	if e != want || f != want || !sample.Same(x, first) || !sample.Same(y, last) {
		t.Fatalf("%s, %v and %s, %v, want %s and %s, %v", short(x), e, short(y), f, short(first), short(last), want)
	}
}

// 16.3
func TestFirstAndLast(t *testing.T) {
	for order, line := range lines() {
		checkEnds(t, must(t)(sset.New(order)), none(), none(), api.ErrEmpty)
		for n := 1; n <= len(line); n++ {
			checkEnds(t, of(t, order, reversed(line[:n])), line[0], line[n-1], api.OK)
			checkEnds(t, of(t, order, line[n-1:]), line[n-1], line[len(line)-1], api.OK)
		}
		one := of(t, order, line[3:4])
		checkEnds(t, must(t)(one.Disj(line[3])), none(), none(), api.ErrEmpty)
	}
}

// 16.3: the places next to the first and the last one, and far outside.
func TestAt(t *testing.T) {
	for order, line := range lines() {
		for _, n := range []int{0, 1, 2, 7, len(line)} {
			s := of(t, order, reversed(line[:n]))
			for i := range n {
				if v, e := s.At(i); e != api.OK || !sample.Same(v, line[i]) {
					t.Errorf("order %d: At(%d): %s, %v, want %s", order, i, short(v), e, short(line[i]))
				}
			}
			for _, i := range sample.Beyond(n - 1) {
				if i >= 0 && i < n {
					continue
				}
				if v, e := s.At(i); e != api.ErrRange || !sample.Same(v, none()) {
					t.Errorf("order %d: At(%d) of %d: %s, %v", order, i, n, short(v), e)
				}
			}
		}
	}
}

// checkNear is for a member that must be the one in a place of a list, or zero beside a false where there is no such place.
func checkNear(t *testing.T, name string, l []api.Value, i int) func(api.Value, bool, api.Errno) {
	return func(v api.Value, there bool, e api.Errno) {
		t.Helper()
		want, within := none(), i >= 0 && i < len(l)
		if within {
			want = l[i]
		}
		if e != api.OK || there != within || !sample.Same(v, want) {
			t.Fatalf("%s: %s, %v, %v, want %s, %v", name, short(v), there, e, short(want), within)
		}
	}
}

// 16.4: of lines by hand every second value is a member: so some are asked for that are there, that lie between two, that are ahead of all, and behind all.
func TestNearByHand(t *testing.T) {
	for order, line := range lines() {
		for from := range 2 {
			var there []api.Value
			for i := from; i < len(line); i += 2 {
				there = append(there, line[i])
			}
			s := of(t, order, sample.Shuffled(sample.New(uint64(order)), there))
			for i, v := range line {
				// So many members stand ahead; v itself is one more, if it is there, too.
				ahead := (i - from + 1) / 2
				upTo := ahead
				if i%2 == from {
					upTo++
				}
				checkHas(t, s, v, upTo > ahead)
				checkRank(t, s, v, ahead)
				checkNear(t, "Next", there, upTo)(s.Next(v))
				checkNear(t, "Ahead", there, ahead-1)(s.Ahead(v))
			}
		}
	}
}

// 16.4: between all two values of a line by hand: to ahead of from, from that is to, and from ahead of to.
func TestBetweenByHand(t *testing.T) {
	for order, line := range lines() {
		whole, empty := of(t, order, line), of(t, order, nil)
		// One member alone, with values ahead of it and behind it.
		one := of(t, order, line[4:5])
		for from := range line {
			for to := range line {
				check(t, must(t)(whole.Between(line[from], line[to])), order, line[from:max(from, to+1)])
				check(t, must(t)(empty.Between(line[from], line[to])), order, nil)
				var want []api.Value
				if from <= 4 && to >= 4 {
					want = line[4:5]
				}
				check(t, must(t)(one.Between(line[from], line[to])), order, want)
			}
		}
		check(t, whole, order, line)
	}
}

// 16.4, 16.6: what lies between is flat, again and again; what it was cut from stays as it was.
func TestBetweenOfMany(t *testing.T) {
	for order := range api.MaxOrder + 1 {
		source := sample.New(uint64(order))
		line := model.InLine(order, sample.Numbers(800))
		whole := must(t)(sset.New(order))
		for _, v := range sample.Shuffled(source, line) {
			whole = must(t)(whole.Conj(v))
		}
		for range 10 {
			s, first, last := whole, 0, len(line)-1
			for first < last {
				first, last = first+source.Below(1+(last-first)/4), last-source.Below(1+(last-first+3)/4)
				s = must(t)(s.Between(line[first], line[last]))
				check(t, s, order, line[first:last+1])
			}
		}
		check(t, whole, order, line)
	}
}

// 16.6
func TestAtOfRank(t *testing.T) {
	for order, line := range lines() {
		source := sample.New(uint64(order))
		for range 20 {
			plain := each(append(sample.Shuffled(source, line), source.Keys(source.Below(60))...))
			s := of(t, order, plain)
			for _, v := range plain {
				n, _ := s.Rank(v)
				if x, e := s.At(n); e != api.OK || !sample.Same(x, v) {
					t.Fatalf("order %d: At(%d): %s, %v, want %s", order, n, short(x), e, short(v))
				}
			}
		}
	}
}
