package model

import (
	"slices"

	"spinney/api"
	"spinney/heap"
	"spinney/sample"
)

// Record is a record for a heap that has come to be as this one: its op is one, asked as it is to be, its Val right. Most often its handles are of the kinds that its row names.
func (h *Heap) Record(s *sample.Source) api.Record {
	op := h.someOp(s)
	r := api.Record{Op: op}
	for range Args(op) {
		r.Args = append(r.Args, h.someHandle(s, op))
	}
	kind := 0
	switch op {
	case heap.OpNew:
		r.Args = someNew(s)
	case heap.OpIter:
		r.Args[0] = s.Below(api.FnHalf + 1)
	case heap.OpMap, heap.OpKeep:
		r.Args[1] = s.Below(api.FnHalf + 1)
	case heap.OpNth:
		r.Args[1] = s.Below(6) - 1
	case heap.OpTake:
		r.Args[1], r.Args[2] = s.Below(6), s.Below(12)
	default:
		kind, _ = h.Kind(r.Args[0])
	}
	if op == heap.OpJoin && s.Below(8) > 0 {
		r.Args[1] = h.someOf(s, func(other int) bool { return other == kind })
	}
	r.Val = s.Value(1)
	if op == heap.OpAdd && isMap(kind) != (s.Below(8) == 0) {
		r.Val = sample.List(s.Value(1), s.Value(1))
	}
	return r
}

func isMap(kind int) bool {
	return slices.Contains([]int{heap.HMap, heap.HSorted, heap.HMulti, heap.HBimap}, kind)
}

// someOp is any op; those that make collections come more often, so that there is something to ask.
func (h *Heap) someOp(s *sample.Source) int {
	if h.Len() == 0 {
		return heap.OpNew
	}
	often := [...]int{heap.OpNew, heap.OpAdd, heap.OpAdd, heap.OpAdd, heap.OpAdd, heap.OpJoin, heap.OpBegin, heap.OpPush, heap.OpSeq}
	if s.Below(2) == 0 {
		return often[s.Below(len(often))]
	}
	return 1 + s.Below(heap.OpTell)
}

// someHandle is most often a handle of a kind that an op's row names.
func (h *Heap) someHandle(s *sample.Source, op int) int {
	if s.Below(16) == 0 {
		return s.Below(h.Len()+2) - 1
	}
	return h.someOf(s, func(kind int) bool { return Names(op, kind) })
}

// someOf is a handle of some kinds, one of the last ones most often; any number, if there is none.
func (h *Heap) someOf(s *sample.Source, is func(kind int) bool) int {
	var fit []int
	for n, c := range h.handles {
		if is(c.kind) {
			fit = append(fit, n)
		}
	}
	if len(fit) == 0 {
		return s.Below(h.Len() + 1)
	}
	if last := fit[max(0, len(fit)-3):]; s.Below(3) > 0 {
		return last[s.Below(len(last))]
	}
	return fit[s.Below(len(fit))]
}

// someNew is a kind of collection with a kind of hash or an order, most often one that it may have.
func someNew(s *sample.Source) []int {
	kind := 1 + s.Below(heap.HBimap)
	by := [...]int{0, 0, 1, 2, 3, 4, 5, 32, 39, 63}
	if (kind == heap.HVec || kind == heap.HDeque) && s.Below(8) > 0 {
		return []int{kind, 0}
	}
	return []int{kind, by[s.Below(len(by))]}
}

// Spoilt is a record with something else in the place of one thing, which makes it wrong, most often.
func Spoilt(s *sample.Source, r api.Record) api.Record {
	numbers := sample.Beyond(s.Below(64))
	wrongs := sample.Wrongs()
	r.Args = slices.Clone(r.Args)
	switch s.Below(7) {
	case 0:
		r.Op = sample.Beyond(heap.OpTell)[s.Below(8)]
	case 1:
		r.Args = append(r.Args, 0)
	case 2:
		r.Args = r.Args[1:]
	case 3:
		r.Text = "a"
	case 4:
		r.Val = wrongs[s.Below(len(wrongs))]
	case 5:
		r.Val = sample.List(wrongs[s.Below(len(wrongs))], s.Value(1))
	case 6:
		r.Args[s.Below(len(r.Args))] = numbers[s.Below(len(numbers))]
	}
	return r
}
