package model

import (
	"slices"
	"strings"

	"spinney/api"
	"spinney/fns"
	"spinney/hash"
	"spinney/heap"
	"spinney/sample"
	"spinney/value"
)

// Heap answers records as chapter 27 says, by plain lists alone.
type Heap struct {
	handles []*held
}

// held is what a handle holds: a kind of handle, a kind of hash or an order, and, by the kind, pairs, or items, or a seq.
type held struct {
	kind, by int
	pairs    []api.Pair
	items    []api.Value
	sealed   bool
	seq      *Seq
}

// asked is how an op is asked: how many Args it has, of which kinds the handles among them are (a letter for each, that of the number in the base 12), whether it makes a handle.
type asked struct {
	args  int
	first string
	pair  bool
	makes bool
}

// table is chapter 27's.
func table() map[int]asked {
	return map[int]asked{
		heap.OpNew:   {args: 2, makes: true},
		heap.OpAdd:   {args: 1, first: "123456789", makes: true},
		heap.OpLess:  {args: 1, first: "124589", makes: true},
		heap.OpGet:   {args: 1, first: "124589"},
		heap.OpNth:   {args: 2, first: "36a"},
		heap.OpSize:  {args: 1, first: "123456789a"},
		heap.OpPop:   {args: 1, first: "367a", makes: true},
		heap.OpJoin:  {args: 2, first: "12345678", pair: true, makes: true},
		heap.OpBegin: {args: 1, first: "3", makes: true},
		heap.OpPush:  {args: 1, first: "a"},
		heap.OpSeal:  {args: 1, first: "a", makes: true},
		heap.OpSeq:   {args: 1, first: "123456789", makes: true},
		heap.OpIter:  {args: 1, makes: true},
		heap.OpMap:   {args: 2, first: "b", makes: true},
		heap.OpKeep:  {args: 2, first: "b", makes: true},
		heap.OpTake:  {args: 3, first: "b"},
		heap.OpSame:  {args: 2, first: "123456789", pair: true},
		heap.OpHash:  {args: 1, first: "123456789"},
		heap.OpTell:  {args: 1, first: "123456789a"},
	}
}

// Names tells whether the row of an op names a kind of handle.
func Names(op, kind int) bool {
	return kind > 0 && kind < 12 && strings.ContainsRune(table()[op].first, rune("0123456789ab"[kind]))
}

// Args is how many Args an op is asked with, -1 if it is none.
func Args(op int) int {
	row, there := table()[op]
	if !there {
		return -1
	}
	return row.args
}

// Makes tells whether an op makes a handle of what it is asked of.
func Makes(op, kind int) bool {
	return table()[op].makes && !(op == heap.OpPop && kind == heap.HTrans)
}

// Len is how many handles it has.
func (h *Heap) Len() int { return len(h.handles) }

// Do does a record.
func (h *Heap) Do(r api.Record) api.Answer {
	made, v, e := h.done(r)
	if e != api.OK {
		return api.Answer{Code: e, Handle: -1}
	}
	if made == nil {
		return api.Answer{Handle: -1, Val: v}
	}
	h.handles = append(h.handles, made)
	return api.Answer{Handle: len(h.handles) - 1, Val: v}
}

// Kind is a handle's kind.
func (h *Heap) Kind(n int) (int, api.Errno) {
	if n < 0 || n >= len(h.handles) {
		return 0, api.ErrHandle
	}
	return h.handles[n].kind, api.OK
}

// Tell is what a handle says.
func (h *Heap) Tell(n int) (api.Value, api.Errno) {
	if n < 0 || n >= len(h.handles) {
		return api.Value{}, api.ErrHandle
	}
	return h.handles[n].says()
}

// done is what comes of a record: what is to have a handle, and a value.
func (h *Heap) done(r api.Record) (*held, api.Value, api.Errno) {
	row, there := table()[r.Op]
	if !there || len(r.Args) != row.args || r.Text != "" {
		return nil, api.Value{}, api.ErrOp
	}
	named := 0
	switch {
	case row.pair:
		named = 2
	case row.first != "":
		named = 1
	}
	kind := 0
	if named > 0 {
		kind, _ = h.Kind(r.Args[0])
	}
	if Makes(r.Op, kind) && h.Len() == heap.MaxHandles {
		return nil, api.Value{}, api.ErrLong
	}
	var of []*held
	for i, n := range r.Args[:named] {
		k, e := h.Kind(n)
		if e != api.OK {
			return nil, api.Value{}, e
		}
		if !Names(r.Op, k) || i == 1 && r.Op == heap.OpJoin && k != kind {
			return nil, api.Value{}, api.ErrWrong
		}
		of = append(of, h.handles[n])
	}
	return step(r, of, r.Args[named:])
}

// step does what a record asks for, of what its handles hold and with the numbers behind them.
func step(r api.Record, of []*held, n []int) (*held, api.Value, api.Errno) {
	switch r.Op {
	case heap.OpNew:
		return created(n[0], n[1])
	case heap.OpIter:
		if _, e := fns.One(n[0], r.Val); e != api.OK {
			return nil, api.Value{}, e
		}
		return &held{kind: heap.HSeq, seq: Iterated(n[0], r.Val)}, api.Value{}, api.OK
	case heap.OpAdd:
		made, e := of[0].with(r.Val)
		return made, api.Value{}, e
	case heap.OpLess:
		if e := value.Check(r.Val); e != api.OK {
			return nil, api.Value{}, e
		}
		return of[0].without(r.Val), api.Value{}, api.OK
	case heap.OpJoin:
		made, e := of[0].joined(of[1])
		return made, api.Value{}, e
	case heap.OpSeq:
		return &held{kind: heap.HSeq, seq: SeqOf(of[0].members())}, api.Value{}, api.OK
	case heap.OpPop:
		return of[0].popped()
	case heap.OpBegin:
		return &held{kind: heap.HTrans, items: of[0].items}, api.Value{}, api.OK
	case heap.OpPush, heap.OpSeal:
		return of[0].changed(r)
	case heap.OpMap, heap.OpKeep:
		return of[0].lazily(r.Op, n[0])
	}
	v, e := of[0].tells(r, of, n)
	return nil, v, e
}

// created is a collection without members.
func created(kind, by int) (*held, api.Value, api.Errno) {
	most := api.MaxHash
	switch kind {
	case heap.HVec, heap.HDeque:
		most = 0
	case heap.HSorted, heap.HSorts, heap.HQueue:
		most = api.MaxOrder
	case heap.HMap, heap.HSet, heap.HMulti, heap.HBimap:
	default:
		return nil, api.Value{}, api.ErrArg
	}
	if by < 0 || by > most {
		return nil, api.Value{}, api.ErrKind
	}
	return &held{kind: kind, by: by}, api.Value{}, api.OK
}

// tells is the value that an op tells that changes nothing.
func (c *held) tells(r api.Record, of []*held, n []int) (api.Value, api.Errno) {
	switch r.Op {
	case heap.OpGet:
		return c.get(r.Val)
	case heap.OpNth:
		return c.nth(n[0])
	case heap.OpSize:
		if c.sealed {
			return api.Value{}, api.ErrSeal
		}
		return sample.Num(int64(len(c.items) + len(c.pairs))), api.OK
	case heap.OpTake:
		if n[0] < 0 || n[0] > api.MaxLen || n[1] < 0 || n[1] > api.MaxFuel {
			return api.Value{}, api.ErrArg
		}
		items, _, e := c.seq.Take(n[0], n[1])
		if e != api.OK {
			return api.Value{}, e
		}
		return value.List(items)
	}
	v, e := c.says()
	if e != api.OK || r.Op == heap.OpTell {
		return v, e
	}
	if r.Op == heap.OpHash {
		full, _ := hash.Full(v)
		return sample.Num(int64(full)), api.OK
	}
	w, e := of[1].says()
	if e != api.OK {
		return api.Value{}, e
	}
	if sample.Same(v, w) {
		return sample.Bool(1), api.OK
	}
	return sample.Bool(0), api.OK
}

// says is what chapter 27 calls so.
func (c *held) says() (api.Value, api.Errno) {
	switch c.kind {
	case heap.HSeq:
		return api.Value{}, api.ErrWrong
	case heap.HMap, heap.HSorted, heap.HBimap:
		return value.Map(c.pairs)
	case heap.HMulti:
		return valueOf(ByKeys(InOrder(0, c.pairs)))
	case heap.HSet, heap.HSorts:
		return value.Set(c.items)
	}
	if c.sealed {
		return api.Value{}, api.ErrSeal
	}
	return value.List(c.members())
}

// members are what it has, by its own order.
func (c *held) members() []api.Value {
	switch c.kind {
	case heap.HMap, heap.HBimap:
		return lists(InTrieOrder(c.by, c.pairs))
	case heap.HSorted:
		return lists(InOrder(c.by, c.pairs))
	case heap.HMulti:
		return lists(InPairOrder(c.by, c.pairs))
	case heap.HSet:
		return sample.InTrieOrder(c.by, c.items)
	case heap.HSorts, heap.HQueue:
		return InLine(c.by, c.items)
	}
	return slices.Clone(c.items)
}

// lists are pairs as lists of a key and a value.
func lists(l []api.Pair) []api.Value {
	var out []api.Value
	for _, p := range l {
		out = append(out, sample.List(p.Key, p.Val))
	}
	return out
}
