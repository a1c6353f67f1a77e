package hset

import (
	"spinney/api"
	"spinney/champ"
)

// Union is a set of what is in one set or the other one.
func Union(a, b *Set) (*Set, api.Errno) {
	out := a.own()
	for v := range b.All() {
		more, e := out.Conj(v)
		if e != api.OK {
			return nil, e
		}
		out = more
	}
	return out, api.OK
}

// Meet is a set of what is in both.
func Meet(a, b *Set) *Set { return Less(a, Less(a, b)) }

// Less is a set of what is in one, and not in the other one.
func Less(a, b *Set) *Set {
	out := a.own()
	for v := range b.All() {
		out, _ = out.Disj(v)
	}
	return out
}

// Either is a set of what is in just one of them.
func Either(a, b *Set) (*Set, api.Errno) { return Union(Less(a, b), Less(b, a)) }

// Subset tells whether all of one set is in another one.
func Subset(a, b *Set) bool {
	for v := range a.All() {
		if there, _ := b.Has(v); !there {
			return false
		}
	}
	return true
}

// Equal tells whether two sets have the same members.
func Equal(a, b *Set) bool { return a.Len() == b.Len() && Subset(a, b) }

// Keys is the set of a map's keys.
func Keys(m *champ.Map) *Set {
	var keys []api.Value
	for k := range m.All() {
		keys = append(keys, k)
	}
	out, _ := Of(m.Kind(), keys)
	return out
}
