package owner

import (
	"cmp"

	"spinney/api"
	"spinney/hset"
)

// Set is a transient hash set. Its zero value is sealed.
type Set struct {
	transient[*hset.Set]
}

// BeginSet is a transient of a set.
func BeginSet(s *hset.Set) *Set {
	empty, _ := hset.New(0)
	return &Set{begun(cmp.Or(s, empty))}
}

// Len is how many members it has.
func (t *Set) Len() (int, api.Errno) {
	n, e := t.node()
	if e != api.OK {
		return 0, e
	}
	return n.now.Len(), api.OK
}

// Has tells whether a value is a member.
func (t *Set) Has(v api.Value) (bool, api.Errno) {
	n, e := t.node()
	if e != api.OK {
		return false, e
	}
	return n.now.Has(v)
}

// Conj puts a member in.
func (t *Set) Conj(v api.Value) api.Errno {
	n, e := t.node()
	if e != api.OK {
		return e
	}
	return n.become(n.now.Conj(v))
}

// Disj takes a member away.
func (t *Set) Disj(v api.Value) api.Errno {
	n, e := t.node()
	if e != api.OK {
		return e
	}
	return n.become(n.now.Disj(v))
}

// Seal is the set that it is; it is sealed then.
func (t *Set) Seal() (*hset.Set, api.Errno) {
	n, e := t.node()
	if e != api.OK {
		return nil, e
	}
	return t.seal(n), api.OK
}

// node is what the transient has its set in; ErrSeal, if it is nil or sealed.
func (t *Set) node() (*node[*hset.Set], api.Errno) {
	if t == nil {
		return nil, api.ErrSeal
	}
	return t.owned()
}
