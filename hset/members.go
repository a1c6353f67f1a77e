package hset

import (
	"iter"

	"spinney/api"
	"spinney/champ"
)

// members is what a set keeps its members in: they are a hash map's keys, with nil under each.
type members struct {
	keys *champ.Map
}

// all goes over the members, in trie order.
func (m members) all() iter.Seq[api.Value] {
	return func(yield func(api.Value) bool) {
		for v := range m.keys.All() {
			if !yield(v) {
				return
			}
		}
	}
}

// made is the set of a hash map's keys, and the error that came with it.
func made(keys *champ.Map, e api.Errno) (*Set, api.Errno) {
	if e != api.OK {
		return nil, e
	}
	return &Set{members{keys}}, api.OK
}

// keyed are values as keys of nil.
func keyed(l []api.Value) []api.Pair {
	out := make([]api.Pair, len(l))
	for i, v := range l {
		out[i].Key = v
	}
	return out
}
