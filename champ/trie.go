package champ

import (
	"spinney/api"
	"spinney/hash"
)

// trie is a trie of some keys, with what lies under them. Its zero value has no key, and is of kind 0.
type trie[V any] struct {
	kind, size int
	top        node[V]
}

// find is the member of a key, nil if there is none; ErrValue, if the key is not right.
func (t *trie[V]) find(k api.Value) (*member[V], api.Errno) {
	h, e := hash.Of(t.kind, k)
	if e != api.OK {
		return nil, e
	}
	return t.top.find(h, k), api.OK
}

// with is the trie in which something else lies under a right key, whose member is the old one (nil: it has none); ErrLong, if there would be more than MaxLen keys.
func (t *trie[V]) with(k api.Value, val V, old *member[V]) (trie[V], api.Errno) {
	size := t.size
	if old == nil {
		size++
	}
	if size > api.MaxLen {
		return trie[V]{}, api.ErrLong
	}
	return trie[V]{kind: t.kind, size: size, top: *t.top.with(newMember(t.kind, k, val), 0)}, api.OK
}

// without is the trie without one of its members.
func (t *trie[V]) without(old *member[V]) trie[V] {
	return trie[V]{kind: t.kind, size: t.size - 1, top: *t.top.without(old, 0)}
}
