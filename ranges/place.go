package ranges

import (
	"iter"

	"spinney/api"
	"spinney/redblack"
	"spinney/value"
)

// All that looks for a key is told by places: by how many keys stand ahead of it, with it or without it. So what stands ahead of a gap and what stands behind it are next to each other.

// upTo is how many keys stand ahead of a key, or are it, if it counts; ErrValue, if it is not right.
func upTo(m *redblack.Map, k api.Value, counts bool) (int, api.Errno) {
	if e := value.Check(k); e != api.OK {
		return 0, e
	}
	n := 0
	for part := m.Whole(); part.Len() > 0; {
		if c := part.Stand(k); c > 0 || c == 0 && counts {
			n += part.Ahead().Len() + 1
			part = part.Behind()
		} else {
			part = part.Ahead()
		}
	}
	return n, api.OK
}

// inPlace is the pair with so many keys ahead of its own, and whether there is one.
func inPlace(m *redblack.Map, i int) (api.Pair, bool) {
	part := m.Whole()
	if i < 0 || i >= part.Len() {
		return api.Pair{}, false
	}
	for {
		ahead := part.Ahead()
		switch n := ahead.Len(); {
		case i < n:
			part = ahead
		case i > n:
			part, i = part.Behind(), i-n-1
		default:
			return part.Pair(), true
		}
	}
}

// lastOf is the last pair whose key stands ahead of a key, or is it, if it counts.
func lastOf(m *redblack.Map, k api.Value, counts bool) (api.Pair, bool, api.Errno) {
	n, e := upTo(m, k, counts)
	if e != api.OK {
		return api.Pair{}, false, e
	}
	p, there := inPlace(m, n-1)
	return p, there, api.OK
}

// firstBeyond is the pair that comes behind those of which lastOf is the last one.
func firstBeyond(m *redblack.Map, k api.Value, counts bool) (api.Pair, bool, api.Errno) {
	n, e := upTo(m, k, counts)
	if e != api.OK {
		return api.Pair{}, false, e
	}
	p, there := inPlace(m, n)
	return p, there, api.OK
}

// backwards goes over a map's parts, the one with the last pair for its node first. The stack holds those whose pairs are still to come, each with what stands ahead of it: the next one lies on top.
func backwards(whole redblack.Part) iter.Seq[redblack.Part] {
	return func(yield func(redblack.Part) bool) {
		stack := piled(nil, whole)
		for len(stack) > 0 {
			top := len(stack) - 1
			next := stack[top]
			stack = piled(stack[:top], next.Ahead())
			if !yield(next) {
				return
			}
		}
	}
}

// piled is a stack with a part laid on it, and on that all parts on the way to its last pair.
func piled(stack []redblack.Part, part redblack.Part) []redblack.Part {
	for ; part.Len() > 0; part = part.Behind() {
		stack = append(stack, part)
	}
	return stack
}
