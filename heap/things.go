package heap

import (
	"spinney/api"
	"spinney/bimap"
	"spinney/cell"
	"spinney/champ"
	"spinney/finger"
	"spinney/hset"
	"spinney/multi"
	"spinney/pairing"
	"spinney/redblack"
	"spinney/rrb"
	"spinney/sset"
	"spinney/tvec"
	"spinney/value"
)

// What several kinds of things tell by calls of one form.
type (
	sized  interface{ Len() int }
	valued interface {
		Value() (api.Value, api.Errno)
	}
	itemized interface{ Items() []api.Value }
	paired   interface{ Pairs() []api.Pair }
	gettable interface {
		Get(k api.Value) (api.Value, bool, api.Errno)
	}
	having interface {
		Has(v api.Value) (bool, api.Errno)
	}
)

// kindOf is the kind of a handle that holds a thing.
func kindOf(thing any) int {
	switch thing.(type) {
	case *champ.Map:
		return HMap
	case *hset.Set:
		return HSet
	case *rrb.Vec:
		return HVec
	case *redblack.Map:
		return HSorted
	case *sset.Set:
		return HSorts
	case *finger.Deque:
		return HDeque
	case *pairing.Queue:
		return HQueue
	case *multi.Map:
		return HMulti
	case *bimap.Map:
		return HBimap
	case *tvec.Vec:
		return HTrans
	case *cell.Cell:
		return HSeq
	}
	return 0
}

// size is how many members a thing has; ErrSeal of a sealed transient, ErrWrong of a seq.
func size(thing any) (int, api.Errno) {
	switch t := thing.(type) {
	case sized:
		return t.Len(), api.OK
	case *tvec.Vec:
		return t.Len()
	}
	return 0, api.ErrWrong
}

// says is what a thing says, as a value.
func says(thing any) (api.Value, api.Errno) {
	n, e := size(thing)
	if e != api.OK {
		return api.Value{}, e
	}
	// Each member is a part of the value at least: asked first, since far too many would be gone over in vain.
	if n > api.MaxParts {
		return api.Value{}, api.ErrLong
	}
	switch t := thing.(type) {
	case valued:
		return t.Value()
	case paired:
		return value.Map(t.Pairs())
	case *tvec.Vec:
		return value.List(itemsOf(t, n))
	}
	return value.List(members(thing))
}

// itemsOf are the items of an open transient that has so many.
func itemsOf(t *tvec.Vec, n int) []api.Value {
	out := make([]api.Value, n)
	for i := range out {
		out[i], _ = t.Nth(i)
	}
	return out
}

// members are what a collection has, in its own order; pairs are lists of a key and a value.
func members(thing any) []api.Value {
	switch t := thing.(type) {
	case itemized:
		return t.Items()
	case paired:
		return listed(t.Pairs())
	}
	return thing.(*pairing.Queue).Sorted()
}

func listed(l []api.Pair) []api.Value {
	var out []api.Value
	for _, p := range l {
		out = append(out, api.Value{Kind: api.VList, Items: []api.Value{p.Key, p.Val}})
	}
	return out
}
