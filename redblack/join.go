package redblack

// join is a tree of one tree's items, an item behind them, and another tree's items behind that. Every tree that is not grown at once is put together by it, so it alone keeps the balance.
func join[T any](left *node[T], item T, right *node[T]) *node[T] {
	left, right = left.black(), right.black()
	l, r := left.measured().blacks, right.measured().blacks
	switch {
	case l > r:
		return hungRight(left, item, right)
	case l < r:
		return hungLeft(left, item, right)
	}
	return made(true, left, item, right)
}

// together is a tree of one tree's items, and another tree's items behind them.
func together[T any](left, right *node[T]) *node[T] {
	if left == nil {
		return right
	}
	rest, last := left.cutLast()
	return join(rest, last, right)
}

// hungRight is the left tree with an item and the right tree, which is black at its top, hung in at its right edge: there where as many black nodes are below. It has as many black nodes as the left tree; a red one at the top may have a red one to its right, but only if the left tree was red at its top.
func hungRight[T any](left *node[T], item T, right *node[T]) *node[T] {
	if !left.isRed() && left.measured().blacks == right.measured().blacks {
		return made(true, left, item, right)
	}
	edge := hungRight(left.right, item, right)
	// Of two red ones in a row the upper one comes to the top, with a black one on each side: as many black ones on each way as before.
	if !left.red && edge.red && edge.right.isRed() {
		return made(true, made(false, left.left, left.item, edge.left), edge.item, edge.right.black())
	}
	return made(left.red, left.left, left.item, edge)
}

// hungLeft is hungRight the other way round.
func hungLeft[T any](left *node[T], item T, right *node[T]) *node[T] {
	if !right.isRed() && left.measured().blacks == right.measured().blacks {
		return made(true, left, item, right)
	}
	edge := hungLeft(left, item, right.left)
	if !right.red && edge.red && edge.left.isRed() {
		return made(true, edge.left.black(), edge.item, made(false, edge.right, right.item, right.right))
	}
	return made(right.red, edge, right.item, right.right)
}

// split are the trees of what stands ahead of an item and behind it; the item itself is in neither.
func (n *node[T]) split(at func(T) int) (ahead, behind *node[T]) {
	if n == nil {
		return nil, nil
	}
	c := at(n.item)
	switch {
	case c < 0:
		ahead, behind = n.left.split(at)
		return ahead, join(behind, n.item, n.right)
	case c > 0:
		ahead, behind = n.right.split(at)
		return join(n.left, n.item, ahead), behind
	}
	return n.left, n.right
}

// cut are the trees of the first items, so many, and of all others.
func (n *node[T]) cut(first int) (ahead, behind *node[T]) {
	if first <= 0 {
		return nil, n
	}
	if first >= n.measured().size {
		return n, nil
	}
	left := n.left.measured().size
	if first <= left {
		ahead, behind = n.left.cut(first)
		return ahead, join(behind, n.item, n.right)
	}
	ahead, behind = n.right.cut(first - left - 1)
	return join(n.left, n.item, ahead), behind
}

// cutLast is the tree without its last item, and that one; there is one.
func (n *node[T]) cutLast() (*node[T], T) {
	if n.right == nil {
		return n.left, n.item
	}
	rest, last := n.right.cutLast()
	return join(n.left, n.item, rest), last
}
