package finger

// Where a place of a tree lies.
const (
	atFront = iota
	inMiddle
	atBack
)

// where tells in which section of a tree a place lies that is there, and which place it is in that section.
func (t *tree[T]) where(i int) (section, place int) {
	ahead := total(t.front).items
	if i < ahead {
		return atFront, i
	}
	i -= ahead
	if i < t.middle.Len() {
		return inMiddle, i
	}
	return atBack, i - t.middle.Len()
}

// item is the item in a place that is there.
func (t *tree[T]) item(i int) T {
	section, place := t.where(i)
	switch section {
	case atFront:
		return itemOf(t.front, place)
	case inMiddle:
		return t.middle.item(place)
	}
	return itemOf(t.back, place)
}

// with is the tree with another leaf in a place that is there.
func (t *tree[T]) with(i int, x part[T]) *tree[T] {
	section, place := t.where(i)
	switch section {
	case atFront:
		return made(replaced(t.front, place, x), t.middle, t.back)
	case inMiddle:
		return made(t.front, t.middle.with(place, x), t.back)
	}
	return made(t.front, t.middle, replaced(t.back, place, x))
}

// each goes over the items; it tells whether yield wants to go on.
func (t *tree[T]) each(yield func(T) bool) bool {
	return t == nil || eachOf(t.front, yield) && t.middle.each(yield) && eachOf(t.back, yield)
}

// cut is what stands ahead of the part that has a place that is there, that part, and what stands behind it.
func (t *tree[T]) cut(i int) (*tree[T], part[T], *tree[T]) {
	section, place := t.where(i)
	switch section {
	case atFront:
		at, _ := find(t.front, place)
		return grown(t.front[:at:at]), t.front[at], filled(t.front[at+1:], t.middle, t.back)
	case inMiddle:
		ahead, n, behind := t.middle.cut(place)
		parts := n.below()
		at, _ := find(parts, place-ahead.Len())
		return filled(t.front, ahead, parts[:at:at]), parts[at], filled(parts[at+1:], behind, t.back)
	}
	at, _ := find(t.back, place)
	return filled(t.front, t.middle, t.back[:at:at]), t.back[at], grown(t.back[at+1:])
}
