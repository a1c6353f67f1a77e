package desk

import (
	"strconv"

	"spinney/algebra"
	"spinney/api"
	"spinney/hash"
	"spinney/heap"
	"spinney/order"
	"spinney/paths"
	"spinney/value"
)

// kindArg stands in a row's args for a word that says a kind; all other letters (N) stand for numbers.
const kindArg = 'K'

// row is what is to be known of a command: its arguments, a letter for each, whether a value stands behind them, the heap's op that it is (0: none), and what it does: it tells its line, or gives up.
type row struct {
	args   string
	valued bool
	op     int
	do     func(h *heap.Heap, c command) string
}

// isStep tells whether a command is a step of the heap.
func (r row) isStep() bool { return r.op != 0 }

// rows are the commands, by their names.
func rows() map[string]row {
	return map[string]row{
		"new":   {args: "KN", op: heap.OpNew, do: handle},
		"add":   {args: "N", valued: true, op: heap.OpAdd, do: handle},
		"less":  {args: "N", valued: true, op: heap.OpLess, do: handle},
		"get":   {args: "N", valued: true, op: heap.OpGet, do: told},
		"push":  {args: "N", valued: true, op: heap.OpPush, do: done},
		"nth":   {args: "NN", op: heap.OpNth, do: told},
		"size":  {args: "N", op: heap.OpSize, do: told},
		"pop":   {args: "N", op: heap.OpPop, do: told},
		"join":  {args: "NN", op: heap.OpJoin, do: handle},
		"begin": {args: "N", op: heap.OpBegin, do: handle},
		"seal":  {args: "N", op: heap.OpSeal, do: handle},
		"seq":   {args: "N", op: heap.OpSeq, do: handle},
		"same":  {args: "NN", op: heap.OpSame, do: told},
		"hash":  {args: "N", op: heap.OpHash, do: told},
		"tell":  {args: "N", op: heap.OpTell, do: told},
		"iter":  {args: "N", valued: true, op: heap.OpIter, do: handle},
		"map":   {args: "NN", op: heap.OpMap, do: handle},
		"keep":  {args: "NN", op: heap.OpKeep, do: handle},
		"take":  {args: "NNN", op: heap.OpTake, do: told},
		"print": {valued: true, do: echo},
		"code":  {args: "N", valued: true, do: code},
		"sort":  {args: "N", valued: true, do: sorted},
		"fold":  {args: "N", valued: true, do: fold},
		"at":    {valued: true, do: at},
		"put":   {valued: true, do: put},
	}
}

// step does a command's step of the heap.
func step(h *heap.Heap, c command) api.Answer {
	a := h.Do(c.record())
	return sure(a, a.Code)
}

// handle tells the handle that a step makes.
func handle(h *heap.Heap, c command) string { return "handle " + strconv.Itoa(step(h, c).Handle) }

// told tells the value that a step tells, a nil too, and ahead of it the handle, if there is one (pop of a transient makes none).
func told(h *heap.Heap, c command) string {
	a := step(h, c)
	if a.Handle < 0 {
		return printed(a.Val)
	}
	return "handle " + strconv.Itoa(a.Handle) + " " + printed(a.Val)
}

// done tells no more than that a step was done.
func done(h *heap.Heap, c command) string {
	step(h, c)
	return "ok"
}

func echo(_ *heap.Heap, c command) string { return printed(c.read()) }

func code(_ *heap.Heap, c command) string {
	v := c.read()
	return strconv.FormatUint(uint64(sure(hash.Of(c.args[0], v))), 10)
}

func sorted(_ *heap.Heap, c command) string {
	v := c.read()
	ask(v.Kind >= api.VList)
	items := sure(order.Sort(c.args[0], v.Items))
	return printed(sure(value.List(items)))
}

func fold(_ *heap.Heap, c command) string {
	v := c.read()
	ask(isListOf(v, 2) && isList(v.Items[1]))
	last, taken, e := algebra.Reduce(c.args[0], v.Items[0], v.Items[1].Items)
	return printed(sure(last, e)) + " " + strconv.Itoa(taken)
}

func at(_ *heap.Heap, c command) string {
	v := c.read()
	ask(isListOf(v, 2) && isList(v.Items[1]))
	x, there, e := paths.Get(v.Items[0], v.Items[1].Items)
	if !sure(there, e) {
		return "none"
	}
	return printed(x)
}

func put(_ *heap.Heap, c command) string {
	v := c.read()
	ask(isListOf(v, 3) && isList(v.Items[1]))
	return printed(sure(paths.Put(v.Items[0], v.Items[1].Items, v.Items[2])))
}

func isList(v api.Value) bool { return v.Kind == api.VList }

func isListOf(v api.Value, n int) bool { return isList(v) && len(v.Items) == n }
