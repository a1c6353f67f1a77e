package model

import (
	"slices"

	"spinney/api"
	"spinney/fns"
	"spinney/heap"
	"spinney/sample"
	"spinney/value"
)

// fitting is what was made, or ErrLong, if it has too many members.
func (c held) fitting() (*held, api.Errno) {
	if len(c.items)+len(c.pairs) > api.MaxLen {
		return nil, api.ErrLong
	}
	return &c, api.OK
}

// with is one with a member more.
func (c held) with(v api.Value) (*held, api.Errno) {
	if e := value.Check(v); e != api.OK {
		return nil, e
	}
	switch c.kind {
	case heap.HMap, heap.HSorted, heap.HMulti, heap.HBimap:
		if v.Kind != api.VList || len(v.Items) != 2 {
			return nil, api.ErrArg
		}
		c.pairs = c.put(v.Items[0], v.Items[1])
	case heap.HSet, heap.HSorts:
		c.items = append(withoutItem(c.items, v), v)
	default:
		c.items = append(slices.Clone(c.items), v)
	}
	return c.fitting()
}

// put are its pairs with one more.
func (c held) put(k, v api.Value) []api.Pair {
	switch c.kind {
	case heap.HMulti:
		return Add(c.pairs, k, v)
	case heap.HBimap:
		return PutBoth(c.pairs, k, v)
	}
	return Put(c.pairs, k, v)
}

// withoutItem is a new list without a value.
func withoutItem(l []api.Value, v api.Value) []api.Value {
	return slices.DeleteFunc(slices.Clone(l), func(w api.Value) bool { return sample.Same(w, v) })
}

// without is one without a key, or a member.
func (c held) without(v api.Value) *held {
	c.pairs = RemoveKey(c.pairs, v)
	c.items = withoutItem(c.items, v)
	return &c
}

// joined is one with the members of another one, too.
func (c held) joined(other *held) (*held, api.Errno) {
	switch c.kind {
	case heap.HVec, heap.HDeque, heap.HQueue:
		c.items = slices.Concat(c.items, other.items)
	case heap.HSet, heap.HSorts:
		for _, v := range other.items {
			c.items = append(withoutItem(c.items, v), v)
		}
	default:
		for _, p := range other.pairs {
			c.pairs = c.put(p.Key, p.Val)
		}
	}
	return c.fitting()
}

// popped is one without an item, and that item; a transient is changed in its place.
func (c *held) popped() (*held, api.Value, api.Errno) {
	l := c.members()
	switch {
	case c.sealed:
		return nil, api.Value{}, api.ErrSeal
	case len(l) == 0:
		return nil, api.Value{}, api.ErrEmpty
	}
	rest := *c
	switch c.kind {
	case heap.HTrans:
		c.items = l[:len(l)-1]
		return nil, l[len(l)-1], api.OK
	case heap.HVec:
		rest.items = l[:len(l)-1]
		return &rest, l[len(l)-1], api.OK
	}
	rest.items = l[1:]
	return &rest, l[0], api.OK
}

// changed pushes onto a transient, or seals it.
func (c *held) changed(r api.Record) (*held, api.Value, api.Errno) {
	if c.sealed {
		return nil, api.Value{}, api.ErrSeal
	}
	if r.Op == heap.OpSeal {
		c.sealed = true
		return &held{kind: heap.HVec, items: c.items}, api.Value{}, api.OK
	}
	more, e := c.with(r.Val)
	if e == api.OK {
		c.items = more.items
	}
	return nil, api.Value{}, e
}

// lazily is a seq of a seq.
func (c *held) lazily(op, number int) (*held, api.Value, api.Errno) {
	if op == heap.OpMap {
		_, e := fns.One(number, api.Value{})
		return &held{kind: heap.HSeq, seq: c.seq.Mapped(number)}, api.Value{}, e
	}
	_, e := fns.Is(number, api.Value{})
	return &held{kind: heap.HSeq, seq: c.seq.Kept(number)}, api.Value{}, e
}

// get is what lies under a key; of a set the member itself.
func (c *held) get(k api.Value) (api.Value, api.Errno) {
	if e := value.Check(k); e != api.OK {
		return api.Value{}, e
	}
	var under []api.Value
	for _, v := range c.items {
		if sample.Same(v, k) {
			under = append(under, v)
		}
	}
	for _, p := range c.pairs {
		if sample.Same(p.Key, k) {
			under = append(under, p.Val)
		}
	}
	switch {
	case len(under) == 0:
		return api.Value{}, api.ErrNone
	case c.kind == heap.HMulti:
		return value.Set(under)
	}
	return under[0], api.OK
}

// nth is the item in a place.
func (c *held) nth(i int) (api.Value, api.Errno) {
	switch {
	case c.sealed:
		return api.Value{}, api.ErrSeal
	case i < 0 || i >= len(c.items):
		return api.Value{}, api.ErrRange
	}
	return c.items[i], api.OK
}
