package heap

import (
	"spinney/api"
	"spinney/bimap"
	"spinney/champ"
	"spinney/concat"
	"spinney/finger"
	"spinney/hset"
	"spinney/merge"
	"spinney/multi"
	"spinney/pairing"
	"spinney/redblack"
	"spinney/rrb"
	"spinney/split"
	"spinney/sset"
	"spinney/value"
)

// empty makes a collection of a kind, without members.
func empty(s step) outcome {
	kind, k := s.numbers[0], s.numbers[1]
	switch kind {
	case HMap:
		return made(champ.New(k))
	case HSet:
		return made(hset.New(k))
	case HVec:
		return made(rrb.New(), noKind(k))
	case HSorted:
		return made(redblack.New(k))
	case HSorts:
		return made(sset.New(k))
	case HDeque:
		return made(finger.New(), noKind(k))
	case HQueue:
		return made(pairing.New(k))
	case HMulti:
		return made(multi.New(k))
	case HBimap:
		return made(bimap.New(k))
	}
	return outcome{code: api.ErrArg}
}

// noKind is ErrKind, if something is said of a collection that has neither a kind of hash nor an order.
func noKind(k int) api.Errno {
	if k != 0 {
		return api.ErrKind
	}
	return api.OK
}

// add makes a collection with one member more.
func add(s step) outcome {
	if e := value.Check(s.val); e != api.OK {
		return outcome{code: e}
	}
	switch t := s.things[0].(type) {
	case *hset.Set:
		return made(t.Conj(s.val))
	case *rrb.Vec:
		return made(t.Push(s.val))
	case *sset.Set:
		return made(t.Conj(s.val))
	case *finger.Deque:
		return made(t.Back(s.val))
	case *pairing.Queue:
		return made(t.Push(s.val))
	}
	if s.val.Kind != api.VList || len(s.val.Items) != 2 {
		return outcome{code: api.ErrArg}
	}
	return addPair(s.things[0], s.val.Items[0], s.val.Items[1])
}

// addPair makes a map in which a value lies under a key.
func addPair(thing any, k, v api.Value) outcome {
	switch t := thing.(type) {
	case *champ.Map:
		return made(t.Assoc(k, v))
	case *redblack.Map:
		return made(t.Assoc(k, v))
	case *multi.Map:
		return made(t.Put(k, v))
	}
	return made(thing.(*bimap.Map).Put(k, v))
}

// less makes a collection without a key, or a member.
func less(s step) outcome {
	switch t := s.things[0].(type) {
	case *champ.Map:
		return made(t.Dissoc(s.val))
	case *hset.Set:
		return made(t.Disj(s.val))
	case *redblack.Map:
		return made(t.Dissoc(s.val))
	case *sset.Set:
		return made(t.Disj(s.val))
	case *multi.Map:
		return made(t.Clear(s.val))
	}
	return made(s.things[0].(*bimap.Map).Delete(s.val))
}

// join makes one collection of two of one kind.
func join(s step) outcome {
	other := s.things[1]
	switch t := s.things[0].(type) {
	case *champ.Map:
		return made(merge.Merge(t, other.(*champ.Map)))
	case *hset.Set:
		return made(hset.Union(t, other.(*hset.Set)))
	case *rrb.Vec:
		return made(concat.Concat(t, other.(*rrb.Vec)))
	case *redblack.Map:
		return made(redblack.Union(t, other.(*redblack.Map)))
	case *sset.Set:
		return made(sset.Union(t, other.(*sset.Set)))
	case *finger.Deque:
		return made(split.Concat(t, other.(*finger.Deque)))
	case *pairing.Queue:
		return made(pairing.Meld(t, other.(*pairing.Queue)))
	}
	return made(multi.Union(s.things[0].(*multi.Map), other.(*multi.Map)))
}
