package pairing

import "spinney/api"

// heap is a pairing heap that has an item: none of the heaps below it has one that stands ahead of its own. Queues share heaps, so none is changed once it is made.
type heap struct {
	item  api.Value
	below *row
}

// row is some heaps, one behind the other, so that one more is laid ahead of them without going over them; nil is none.
type row struct {
	first *heap
	rest  *row
}

// joined is a heap of the items of two, either of which may be nil; ahead tells whether an item stands ahead of another one.
func joined(a, b *heap, ahead func(x, y api.Value) bool) *heap {
	switch {
	case a == nil:
		return b
	case b == nil:
		return a
	case ahead(b.item, a.item):
		a, b = b, a
	}
	return &heap{item: a.item, below: &row{first: b, rest: a.below}}
}

// paired is a heap of the items of all, nil of none. They are joined by twos, and what comes of that by twos, lest one of them get more below it than it must: what is below is paired again when its top goes.
func paired(l []*heap, ahead func(x, y api.Value) bool) *heap {
	switch len(l) {
	case 0:
		return nil
	case 1:
		return l[0]
	}
	half := len(l) / 2
	return joined(paired(l[:half], ahead), paired(l[half:], ahead), ahead)
}

// grown is a heap of items, which it keeps; nil of none.
func grown(items []api.Value, ahead func(x, y api.Value) bool) *heap {
	single := make([]*heap, len(items))
	for i, x := range items {
		single[i] = &heap{item: x}
	}
	return paired(single, ahead)
}

// heapsBelow are the heaps right below a heap.
func (h *heap) heapsBelow() []*heap {
	var out []*heap
	for r := h.below; r != nil; r = r.rest {
		out = append(out, r.first)
	}
	return out
}

// items are the items of a heap that may be nil, as it keeps them, in no order that counts: they are to be copied ahead of handing them out.
func (h *heap) items() []api.Value {
	if h == nil {
		return nil
	}
	// A list of what is still to be gone into, since a heap may be as deep as it has items.
	heaps := []*heap{h}
	var out []api.Value
	for i := 0; i < len(heaps); i++ {
		out = append(out, heaps[i].item)
		heaps = append(heaps, heaps[i].heapsBelow()...)
	}
	return out
}
