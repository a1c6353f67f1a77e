package finger

import "slices"

const (
	// most is how many parts a tree has at an end of it at most; it has one there at least, unless it is one part alone.
	most = 4
	// begun is how many parts are laid at an end of a tree that is grown from many, so that there is room for more of them and some to take away.
	begun = 3
)

// tree is a tree of parts of one level, and in its middle a tree of nodes of such parts: nil without a part, and without a part at its back if it is one part alone. A node has two parts at least, so those of each level are at least twice as great as those of the level ahead, and a tree of h levels has at least 3 * 2^(h-1) - 2 items. That keeps it one level below the height that the document allows, whatever is done with it.
type tree[T any] struct {
	sum         measure
	front, back []part[T]
	middle      *tree[T]
}

// made is a tree whose ends have as many parts as they must.
func made[T any](front []part[T], middle *tree[T], back []part[T]) *tree[T] {
	sum := total(front).and(middle.measured()).and(total(back))
	return &tree[T]{sum: sum, front: front, middle: middle, back: back}
}

// filled is a tree of which an end may lack its parts: they are taken from the middle.
func filled[T any](front []part[T], middle *tree[T], back []part[T]) *tree[T] {
	switch {
	case len(front) > 0 && len(back) > 0:
		return made(front, middle, back)
	case middle == nil:
		return grown(slices.Concat(front, back))
	case len(front) == 0:
		first, rest := middle.popFront()
		return made(first.below(), rest, back)
	}
	rest, last := middle.popBack()
	return made(front, rest, last.below())
}

// grown is a tree of parts of one level.
func grown[T any](parts []part[T]) *tree[T] {
	n := len(parts)
	switch {
	case n == 0:
		return nil
	case n == 1:
		return made(parts, nil, nil)
	case n <= 2*most:
		return made(parts[:n/2:n/2], nil, parts[n/2:n:n])
	}
	// The ends have memory of their own, lest they keep the parts of all.
	front, back := slices.Clone(parts[:begun]), slices.Clone(parts[n-begun:])
	return made(front, grown(nodes(parts[begun:n-begun])), back)
}

// Len is how many items it has.
func (t *tree[T]) Len() int { return t.measured().items }

// Weight is how heavy they are.
func (t *tree[T]) Weight() int64 { return t.measured().weight }

func (t *tree[T]) measured() measure {
	if t == nil {
		return measure{}
	}
	return t.sum
}

// levels is how many trees lie in one another.
func (t *tree[T]) levels() int {
	n := 0
	for ; t != nil; t = t.middle {
		n++
	}
	return n
}

// few are a tree's parts, if it has one at most, and whether it has.
func (t *tree[T]) few() ([]part[T], bool) {
	if t == nil {
		return nil, true
	}
	return t.front, len(t.back) == 0
}

// withFront is the tree with a part ahead of all. Where there is no room left, three parts go on to the middle as a node.
func (t *tree[T]) withFront(x part[T]) *tree[T] {
	if parts, ok := t.few(); ok {
		return grown(slices.Concat([]part[T]{x}, parts))
	}
	if len(t.front) < most {
		return made(slices.Concat([]part[T]{x}, t.front), t.middle, t.back)
	}
	return made([]part[T]{x, t.front[0]}, t.middle.withFront(nodeOf(t.front[1:])), t.back)
}

// withBack is the tree with a part behind all.
func (t *tree[T]) withBack(x part[T]) *tree[T] {
	if parts, ok := t.few(); ok {
		return grown(slices.Concat(parts, []part[T]{x}))
	}
	if len(t.back) < most {
		return made(t.front, t.middle, slices.Concat(t.back, []part[T]{x}))
	}
	last := most - 1
	return made(t.front, t.middle.withBack(nodeOf(t.back[:last:last])), []part[T]{t.back[last], x})
}

// popFront is the first part of a tree that has one, and the tree without it.
func (t *tree[T]) popFront() (part[T], *tree[T]) {
	return t.front[0], filled(t.front[1:], t.middle, t.back)
}

// popBack is a tree that has a part without its last one, and that one.
func (t *tree[T]) popBack() (*tree[T], part[T]) {
	if parts, ok := t.few(); ok {
		return nil, parts[0]
	}
	last := len(t.back) - 1
	return filled(t.front, t.middle, t.back[:last:last]), t.back[last]
}

// joined is a tree of one tree's parts, some parts between, and another tree's, all of one level. Only the ends that meet are put together anew, level by level; all else is shared.
func joined[T any](a *tree[T], between []part[T], b *tree[T]) *tree[T] {
	if parts, ok := a.few(); ok {
		for _, x := range slices.Backward(slices.Concat(parts, between)) {
			b = b.withFront(x)
		}
		return b
	}
	if parts, ok := b.few(); ok {
		for _, x := range slices.Concat(between, parts) {
			a = a.withBack(x)
		}
		return a
	}
	meeting := nodes(slices.Concat(a.back, between, b.front))
	return made(a.front, joined(a.middle, meeting, b.middle), b.back)
}
