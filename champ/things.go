package champ

import (
	"iter"

	"spinney/api"
	"spinney/rule"
)

// What this file exports is not chapter 7's own: layers above keep under keys what is no value (chapter 20: a hash set), and reach tries by exported functions alone.

// Things is a hash map with things of any type under its keys. They are kept and told as they are, so they must be of those that never change. Its zero value is an empty one of kind 0.
type Things struct {
	keys trie[any]
}

// NewThings is one without keys.
func NewThings(kind int) (*Things, api.Errno) {
	if e := checkKind(kind); e != api.OK {
		return nil, e
	}
	return &Things{trie[any]{kind: kind}}, api.OK
}

// Kind is its kind of hash.
func (t *Things) Kind() int { return t.own().keys.kind }

// Len is how many keys it has.
func (t *Things) Len() int { return t.own().keys.size }

// Get is what lies under a key, and whether something does.
func (t *Things) Get(k api.Value) (any, bool, api.Errno) {
	found, e := t.own().keys.find(k)
	if found == nil {
		return nil, false, e
	}
	return found.val, true, api.OK
}

// Assoc is one in which a thing lies under a key.
func (t *Things) Assoc(k api.Value, thing any) (*Things, api.Errno) {
	own := t.own()
	old, e := own.keys.find(k)
	if e != api.OK {
		return nil, e
	}
	more, e := own.keys.with(k, thing, old)
	if e != api.OK {
		return nil, e
	}
	return &Things{more}, api.OK
}

// Dissoc is one without a key.
func (t *Things) Dissoc(k api.Value) (*Things, api.Errno) {
	own := t.own()
	old, e := own.keys.find(k)
	if e != api.OK {
		return nil, e
	}
	if old == nil {
		return own, api.OK
	}
	return &Things{own.keys.without(old)}, api.OK
}

// All goes over all keys and what lies under them, in trie order.
func (t *Things) All() iter.Seq2[api.Value, any] {
	return func(yield func(k api.Value, thing any) bool) {
		for member := range t.own().keys.top.all() {
			if !yield(rule.Copy(member.key), member.val) {
				return
			}
		}
	}
}

// own is the map itself, or an empty one in place of nil.
func (t *Things) own() *Things {
	if t == nil {
		return &Things{}
	}
	return t
}
