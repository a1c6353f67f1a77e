package finger_test

import (
	"slices"
	"testing"

	"spinney/api"
	"spinney/finger"
	"spinney/model"
	"spinney/sample"
)

// version is a deque, and what it told when it was made.
type version struct {
	d     *finger.Deque
	plain []api.Value
}

// changed is another version, by one of the deque's own calls.
func (r version) changed(t *testing.T, s *sample.Source) version {
	t.Helper()
	x := s.Value(2)
	kind := s.Below(7)
	if len(r.plain) == 0 {
		kind %= 2
	}
	last := len(r.plain) - 1
	switch kind {
	case 0:
		return version{must(t)(r.d.Front(x)), slices.Concat([]api.Value{x}, r.plain)}
	case 1:
		return version{must(t)(r.d.Back(x)), slices.Concat(r.plain, []api.Value{x})}
	case 2, 3:
		return version{popped(t, r.plain[0])(r.d.PopFront()), r.plain[1:]}
	case 4, 5:
		return version{popped(t, r.plain[last])(r.d.PopBack()), r.plain[:last]}
	}
	i := s.Below(len(r.plain))
	return version{must(t)(r.d.Set(i, x)), replaced(r.plain, i, x)}
}

// P2, P3: many deques made of one another, each of any older one; each tells for ever what it told.
func TestVersions(t *testing.T) {
	for seed := range uint64(20) {
		s := sample.New(seed)
		plain := s.Values(lengths()[seed+2], 2)
		versions := []version{{of(t, plain), plain}}
		for range 200 {
			made := versions[s.Below(len(versions))].changed(t, s)
			check(t, made.d, made.plain)
			versions = append(versions, made)
		}
		for _, r := range versions {
			check(t, r.d, r.plain)
		}
	}
}

// 17.2, 17.3, P6: long chains at both ends, in runs of one kind, so that a deque is grown and used up at one end alone, too.
func TestLongChains(t *testing.T) {
	for seed := range uint64(6) {
		s := sample.New(100 + seed)
		now := version{d: finger.New()}
		for run := range 150 {
			old := now
			kind := s.Below(4)
			for range s.Below(120) {
				now = now.stepped(t, kind, num(int64(run)))
				if now.d.Len() != len(now.plain) || !model.DequeFits(len(now.plain), now.d.Height()) {
					t.Fatalf("run %d: %d items of %d, %d levels", run, now.d.Len(), len(now.plain), now.d.Height())
				}
			}
			check(t, now.d, now.plain)
			check(t, old.d, old.plain)
		}
	}
}

// stepped is another version by a call of a kind, or the same one if there is nothing to take.
func (r version) stepped(t *testing.T, kind int, x api.Value) version {
	t.Helper()
	last := len(r.plain) - 1
	switch {
	case kind == 0:
		return version{must(t)(r.d.Front(x)), slices.Concat([]api.Value{x}, r.plain)}
	case kind == 1:
		return version{must(t)(r.d.Back(x)), slices.Concat(r.plain, []api.Value{x})}
	case last < 0:
		return r
	case kind == 2:
		return version{popped(t, r.plain[0])(r.d.PopFront()), r.plain[1:]}
	}
	return version{popped(t, r.plain[last])(r.d.PopBack()), r.plain[:last]}
}

// 17.2, 17.3: up to MaxLen at either end, and down again at either end.
func TestUpAndDown(t *testing.T) {
	front, back := (*finger.Deque).Front, (*finger.Deque).Back
	popFront, popBack := (*finger.Deque).PopFront, (*finger.Deque).PopBack
	for name, c := range map[string]struct {
		put  func(*finger.Deque, api.Value) (*finger.Deque, api.Errno)
		take func(*finger.Deque) (*finger.Deque, api.Value, api.Errno)
		// same tells whether the item that was put last is taken first.
		same bool
	}{
		"put and taken at the front": {front, popFront, true}, "put at the front, taken at the back": {front, popBack, false},
		"put and taken at the back": {back, popBack, true}, "put at the back, taken at the front": {back, popFront, false},
	} {
		d := finger.New()
		for n := range api.MaxLen {
			d = must(t)(c.put(d, num(int64(n))))
			if d.Len() != n+1 || !model.DequeFits(n+1, d.Height()) {
				t.Fatalf("%s: %d items, %d levels", name, d.Len(), d.Height())
			}
		}
		refused(t, api.ErrLong)(c.put(d, num(1)))
		full := d
		for n := range api.MaxLen {
			want := num(int64(n))
			if c.same {
				want = num(int64(api.MaxLen - 1 - n))
			}
			d = popped(t, want)(c.take(d))
			if d.Len() != api.MaxLen-1-n || !model.DequeFits(d.Len(), d.Height()) {
				t.Fatalf("%s: %d items, %d levels", name, d.Len(), d.Height())
			}
		}
		check(t, d)
		if full.Len() != api.MaxLen {
			t.Errorf("%s: the full one has %d", name, full.Len())
		}
	}
}

// 17.4: PopFront of Front is the deque, and the item; PopBack of Back likewise.
func TestPutAndTaken(t *testing.T) {
	for _, n := range lengths() {
		if n == api.MaxLen {
			continue
		}
		plain := sample.Numbers(n)
		d := of(t, plain)
		x := list(str("x"), num(int64(n)))
		ahead, behind := must(t)(d.Front(x)), must(t)(d.Back(x))
		check(t, ahead, []api.Value{x}, plain)
		check(t, behind, plain, []api.Value{x})
		check(t, popped(t, x)(ahead.PopFront()), plain)
		check(t, popped(t, x)(behind.PopBack()), plain)
		check(t, ahead, []api.Value{x}, plain)
		check(t, behind, plain, []api.Value{x})
		check(t, d, plain)
	}
}

// 17.4: what is put at one end comes out at the other behind all that was there.
func TestThroughTheMiddle(t *testing.T) {
	for _, n := range []int{0, 1, 2, 3, 7, 8, 9, 40, 300} {
		for _, m := range []int{1, 2, 3, 7, 8, 9, 40, 300} {
			plain, more := sample.Numbers(n), sample.New(1).Keys(m)
			ahead, behind := of(t, plain), of(t, plain)
			for _, x := range more {
				ahead, behind = must(t)(ahead.Front(x)), must(t)(behind.Back(x))
			}
			for _, x := range turned(plain) {
				ahead = popped(t, x)(ahead.PopBack())
			}
			for _, x := range plain {
				behind = popped(t, x)(behind.PopFront())
			}
			check(t, ahead, turned(more))
			check(t, behind, more)
			for _, x := range more {
				ahead, behind = popped(t, x)(ahead.PopBack()), popped(t, x)(behind.PopFront())
			}
			check(t, ahead)
			check(t, behind)
		}
	}
}

// 17.4: a deque that is used as a queue keeps the order, however long it runs, and stays low.
func TestQueue(t *testing.T) {
	for _, n := range []int{0, 1, 5, 9, 100, 1000} {
		right, left := of(t, sample.Numbers(n)), of(t, turned(sample.Numbers(n)))
		for k := range int64(3000) {
			right = popped(t, num(k))(must(t)(right.Back(num(k + int64(n)))).PopFront())
			left = popped(t, num(k))(must(t)(left.Front(num(k + int64(n)))).PopBack())
			if right.Len() != n || left.Len() != n || !model.DequeFits(n, right.Height()) || !model.DequeFits(n, left.Height()) {
				t.Fatalf("%d: %d of %d levels, %d of %d levels", n, right.Len(), right.Height(), left.Len(), left.Height())
			}
		}
	}
}

// Calls at the ends and in one place go down the tree alone: each item that was copied would take memory anew.
func TestItemsAreNotGoneOver(t *testing.T) {
	d := of(t, nested(30000))
	one := num(1)
	for name, call := range map[string]func(){
		"Front":    func() { d.Front(one) },
		"Back":     func() { d.Back(one) },
		"PopFront": func() { d.PopFront() },
		"PopBack":  func() { d.PopBack() },
		"At":       func() { d.At(15000) },
		"Set":      func() { d.Set(15000, one) },
		"Len":      func() { d.Len() },
		"Height":   func() { d.Height() },
	} {
		if times := testing.AllocsPerRun(5, call); times > 100 {
			t.Errorf("%s: memory was taken %v times", name, times)
		}
	}
}
