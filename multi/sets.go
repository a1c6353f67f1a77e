package multi

import (
	"iter"

	"spinney/api"
	"spinney/hset"
	"spinney/rule"
	"spinney/value"
)

// own is the map itself, or an empty one in place of nil.
func (m *Map) own() *Map {
	if m == nil {
		return &Map{}
	}
	return m
}

// none is an empty set of its kind.
func (m *Map) none() *hset.Set {
	set, _ := hset.New(m.Kind())
	return set
}

// set is the set of a key, an empty one if it has none; ErrValue, if the key is not right.
func (m *Map) set(k api.Value) (*hset.Set, api.Errno) {
	thing, there, e := m.sets.Get(k)
	if e != api.OK {
		return nil, e
	}
	if !there {
		return m.none(), api.OK
	}
	return asSet(thing), api.OK
}

// asSet is what lies under a key: nothing but sets was ever laid there.
func asSet(thing any) *hset.Set { return thing.(*hset.Set) }

// look is the set of a key, and whether it has a value; ErrValue, if one of them is not right.
func (m *Map) look(k, v api.Value) (*hset.Set, bool, api.Errno) {
	set, e := m.set(k)
	if e != api.OK {
		return nil, false, e
	}
	there, e := set.Has(v)
	if e != api.OK {
		return nil, false, e
	}
	return set, there, api.OK
}

// with is the map in which a right key has a set, or, for an empty one, none; ErrLong, if there would be more than MaxLen pairs.
func (m *Map) with(k api.Value, set *hset.Set) (*Map, api.Errno) {
	old, _ := m.set(k)
	size := m.size - old.Len() + set.Len()
	if size > api.MaxLen {
		return nil, api.ErrLong
	}
	if set.Len() == 0 {
		sets, _ := m.sets.Dissoc(k)
		return &Map{sets: sets, size: size}, api.OK
	}
	sets, _ := m.sets.Assoc(k, set)
	return &Map{sets: sets, size: size}, api.OK
}

// union is a set of what is in one of two, of the first one's kind.
func union(a, b *hset.Set) (*hset.Set, api.Errno) {
	// Shared as it is, since hset puts one member in after the other.
	if a.Len() == 0 && a.Kind() == b.Kind() {
		return b, api.OK
	}
	return hset.Union(a, b)
}

// each goes over its keys and their sets, in trie order.
func (m *Map) each() iter.Seq2[api.Value, *hset.Set] {
	return func(yield func(api.Value, *hset.Set) bool) {
		for k, thing := range m.sets.All() {
			if !yield(k, asSet(thing)) {
				return
			}
		}
	}
}

// all goes over its pairs, in their order.
func (m *Map) all() iter.Seq2[api.Value, api.Value] {
	return func(yield func(k, v api.Value) bool) {
		for k, set := range m.each() {
			for v := range set.All() {
				// Each pair has a key of its own, in memory that it shares with no other one.
				if !yield(rule.Copy(k), v) {
					return
				}
			}
		}
	}
}

// byKeys goes over the keys of right pairs, each once, with the values that each has; they still share with l what they hold.
func byKeys(l []api.Pair) iter.Seq2[api.Value, []api.Value] {
	return func(yield func(api.Value, []api.Value) bool) {
		pairs := rule.LastOfEach(l, comparePairs)
		for len(pairs) > 0 {
			k := pairs[0].Key
			var values []api.Value
			for len(pairs) > 0 && value.Equal(pairs[0].Key, k) {
				values = append(values, pairs[0].Val)
				pairs = pairs[1:]
			}
			if !yield(k, values) {
				return
			}
		}
	}
}

// comparePairs is how pairs stand by their keys, those of one key by their values.
func comparePairs(a, b api.Pair) int {
	if c := value.Compare(a.Key, b.Key); c != 0 {
		return c
	}
	return value.Compare(a.Val, b.Val)
}
