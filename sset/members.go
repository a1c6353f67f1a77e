package sset

import (
	"iter"

	"spinney/api"
	"spinney/redblack"
)

// members is what a set keeps its members in: they are a sorted map's keys, with nil under each.
type members struct {
	keys *redblack.Map
}

// all goes over the members, by their order.
func (m members) all() iter.Seq[api.Value] {
	return func(yield func(api.Value) bool) {
		for v := range m.keys.All() {
			if !yield(v) {
				return
			}
		}
	}
}

// of is the set of a sorted map's keys.
func of(keys *redblack.Map) *Set { return &Set{members{keys}} }

// made is likewise that set, and the error that came with the map.
func made(keys *redblack.Map, e api.Errno) (*Set, api.Errno) {
	if e != api.OK {
		return nil, e
	}
	return of(keys), api.OK
}

// keyed are values as keys of nil.
func keyed(l []api.Value) []api.Pair {
	out := make([]api.Pair, len(l))
	for i, v := range l {
		out[i].Key = v
	}
	return out
}

// orEmpty is the key of a pair, and ErrEmpty if there is none.
func orEmpty(p api.Pair, there bool) (api.Value, api.Errno) {
	if !there {
		return api.Value{}, api.ErrEmpty
	}
	return p.Key, api.OK
}
