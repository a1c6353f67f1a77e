package heap

import (
	"slices"

	"spinney/api"
	"spinney/rule"
)

// step is what an op is done with: what its handles hold, the numbers behind them, a value.
type step struct {
	things  []any
	numbers []int
	val     api.Value
}

// outcome is what comes of a step: a thing that is to have a handle (nil: none), a value that is told, or an error in place of both.
type outcome struct {
	thing any
	val   api.Value
	code  api.Errno
}

// op is a row of the table: how many handles and numbers it is asked with, of which kinds the handles may be, and what it does.
type op struct {
	handles, numbers int
	of               []int
	// alike: the second handle is of the first one's kind.
	alike bool
	// makes: it tells a handle, but of the kind inPlace.
	makes   bool
	inPlace int
	do      func(s step) outcome
}

// ops are the rows, in the places of their numbers. The row 0 is none.
func ops() []op {
	keyed := []int{HMap, HSet, HSorted, HSorts, HMulti, HBimap}
	joined := []int{HMap, HSet, HVec, HSorted, HSorts, HDeque, HQueue, HMulti}
	collections := append(slices.Clone(joined), HBimap)
	telling := append(slices.Clone(collections), HTrans)
	return []op{
		OpNew:   {numbers: 2, makes: true, do: empty},
		OpAdd:   {handles: 1, of: collections, makes: true, do: add},
		OpLess:  {handles: 1, of: keyed, makes: true, do: less},
		OpGet:   {handles: 1, of: keyed, do: get},
		OpNth:   {handles: 1, numbers: 1, of: []int{HVec, HDeque, HTrans}, do: nth},
		OpSize:  {handles: 1, of: telling, do: count},
		OpPop:   {handles: 1, of: []int{HVec, HDeque, HQueue, HTrans}, makes: true, inPlace: HTrans, do: pop},
		OpJoin:  {handles: 2, of: joined, alike: true, makes: true, do: join},
		OpBegin: {handles: 1, of: []int{HVec}, makes: true, do: begin},
		OpPush:  {handles: 1, of: []int{HTrans}, do: push},
		OpSeal:  {handles: 1, of: []int{HTrans}, makes: true, do: seal},
		OpSeq:   {handles: 1, of: collections, makes: true, do: list},
		OpIter:  {numbers: 1, makes: true, do: iterate},
		OpMap:   {handles: 1, numbers: 1, of: []int{HSeq}, makes: true, do: apply},
		OpKeep:  {handles: 1, numbers: 1, of: []int{HSeq}, makes: true, do: choose},
		OpTake:  {handles: 1, numbers: 2, of: []int{HSeq}, do: take},
		OpSame:  {handles: 2, of: collections, do: same},
		OpHash:  {handles: 1, of: collections, do: sum},
		OpTell:  {handles: 1, of: telling, do: tell},
	}
}

// outcome does a record, but that it gives no handle to what comes of it.
func (h *Heap) outcome(r api.Record) outcome {
	o, e := rule.Row(ops(), r.Op)
	if e != api.OK || o.do == nil || len(r.Args) != o.handles+o.numbers || r.Text != "" {
		return outcome{code: api.ErrOp}
	}
	if h.lacksRoom(o, r.Args) {
		return outcome{code: api.ErrLong}
	}
	things, e := h.named(o, r.Args[:o.handles])
	if e != api.OK {
		return outcome{code: e}
	}
	return o.do(step{things: things, numbers: r.Args[o.handles:], val: r.Val})
}

// lacksRoom tells whether an op would tell a handle for which there is no number left.
func (h *Heap) lacksRoom(o op, args []int) bool {
	if !o.makes || h.Len() < MaxHandles {
		return false
	}
	if o.inPlace == 0 {
		return true
	}
	kind, _ := h.Kind(args[0])
	return kind != o.inPlace
}

// named are what the handles of an op hold. Each is looked at whole ahead of the next one: whether it is there, then whether its kind is right.
func (h *Heap) named(o op, handles []int) ([]any, api.Errno) {
	var things []any
	for _, n := range handles {
		thing, e := h.held(n)
		if e != api.OK {
			return nil, e
		}
		if !slices.Contains(o.of, kindOf(thing)) || o.alike && len(things) > 0 && kindOf(thing) != kindOf(things[0]) {
			return nil, api.ErrWrong
		}
		things = append(things, thing)
	}
	return things, api.OK
}

// made is the outcome of a call that tells an object.
func made[T any](thing *T, e api.Errno) outcome {
	if e != api.OK {
		return outcome{code: e}
	}
	return outcome{thing: thing}
}

// told is the outcome of a call that tells a value.
func told(v api.Value, e api.Errno) outcome { return outcome{val: v, code: e} }

// parted is the outcome of a call that tells an item, and an object without it.
func parted[T any](rest *T, item api.Value, e api.Errno) outcome {
	out := made(rest, e)
	out.val = item
	return out
}
