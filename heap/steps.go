package heap

import (
	"spinney/api"
	"spinney/cell"
	"spinney/finger"
	"spinney/hash"
	"spinney/hset"
	"spinney/lazy"
	"spinney/multi"
	"spinney/pairing"
	"spinney/rrb"
	"spinney/rule"
	"spinney/seq"
	"spinney/tvec"
	"spinney/value"
)

func number(n int) api.Value { return api.Value{Kind: api.VInt, Num: int64(n)} }

func truth(is bool) api.Value {
	if is {
		return api.Value{Kind: api.VBool, Num: 1}
	}
	return api.Value{Kind: api.VBool}
}

// found is the outcome of a search: ErrNone, if it found nothing.
func found(v api.Value, there bool, e api.Errno) outcome {
	if e == api.OK && !there {
		e = api.ErrNone
	}
	return told(v, e)
}

// get looks up a key, or a member.
func get(s step) outcome {
	switch t := s.things[0].(type) {
	case gettable:
		return found(t.Get(s.val))
	case having:
		there, e := t.Has(s.val)
		if !there {
			return found(api.Value{}, false, e)
		}
		return told(rule.Copy(s.val), api.OK)
	}
	return several(s.things[0].(*multi.Map).Get(s.val))
}

// several is the outcome of looking up a key of a multimap: a key without values is none.
func several(values *hset.Set, e api.Errno) outcome {
	if e != api.OK || values.Len() == 0 {
		return found(api.Value{}, false, e)
	}
	return told(says(values))
}

// nth looks up a place.
func nth(s step) outcome {
	switch t := s.things[0].(type) {
	case *finger.Deque:
		return told(t.At(s.numbers[0]))
	case *tvec.Vec:
		return told(t.Nth(s.numbers[0]))
	}
	return told(s.things[0].(*rrb.Vec).Nth(s.numbers[0]))
}

// count tells how many members there are.
func count(s step) outcome {
	n, e := size(s.things[0])
	if e != api.OK {
		return outcome{code: e}
	}
	return told(number(n), api.OK)
}

// pop takes an item away; of a transient in its place.
func pop(s step) outcome {
	switch t := s.things[0].(type) {
	case *finger.Deque:
		return parted(t.PopFront())
	case *pairing.Queue:
		return parted(t.Pop())
	case *tvec.Vec:
		return told(t.Pop())
	}
	return parted(s.things[0].(*rrb.Vec).Pop())
}

// begin makes a transient.
func begin(s step) outcome { return made(tvec.Begin(s.things[0].(*rrb.Vec)), api.OK) }

// push pushes onto a transient.
func push(s step) outcome { return outcome{code: s.things[0].(*tvec.Vec).Push(s.val)} }

// seal makes a vector of a transient.
func seal(s step) outcome { return made(s.things[0].(*tvec.Vec).Seal()) }

// list makes a seq of a collection.
func list(s step) outcome { return made(seq.List(members(s.things[0]))) }

// iterate makes a seq without end.
func iterate(s step) outcome { return made(cell.Iter(s.numbers[0], s.val)) }

// apply makes a seq of what a function makes of a seq's items.
func apply(s step) outcome { return made(lazy.Map(s.numbers[0], s.things[0].(*cell.Cell))) }

// choose makes a seq of those of a seq's items of which a question is true.
func choose(s step) outcome { return made(lazy.Keep(s.numbers[0], s.things[0].(*cell.Cell))) }

// take tells a seq's first items.
func take(s step) outcome {
	items, _, e := seq.Take(s.things[0].(*cell.Cell), s.numbers[0], s.numbers[1])
	if e != api.OK {
		return outcome{code: e}
	}
	return told(value.List(items))
}

// same tells whether two collections say the same.
func same(s step) outcome {
	a, e := says(s.things[0])
	if e != api.OK {
		return outcome{code: e}
	}
	b, e := says(s.things[1])
	if e != api.OK {
		return outcome{code: e}
	}
	return told(truth(value.Equal(a, b)), api.OK)
}

// sum tells the full hash of what a collection says.
func sum(s step) outcome {
	v, e := says(s.things[0])
	if e != api.OK {
		return outcome{code: e}
	}
	full, e := hash.Full(v)
	return told(number(int(full)), e)
}

// tell tells what a thing says.
func tell(s step) outcome { return told(says(s.things[0])) }
