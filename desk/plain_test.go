package desk_test

import (
	"strconv"
	"strings"
	"testing"

	"spinney/api"
	"spinney/desk"
	"spinney/heap"
	"spinney/model"
	"spinney/sample"
	"spinney/text"
)

// names are the commands of the heap's ops, kinds the words of its kinds.
func names() []string {
	return []string{"", "new", "add", "less", "get", "nth", "size", "pop", "join", "begin", "push", "seal", "seq", "iter", "map", "keep", "take", "same", "hash", "tell"}
}

func kinds() []string {
	return []string{"", "map", "set", "vec", "sorted", "sorts", "deque", "queue", "multi", "bimap"}
}

// named tells whether an op's command has a value.
func named(op int) bool {
	switch op {
	case heap.OpAdd, heap.OpLess, heap.OpGet, heap.OpPush, heap.OpIter:
		return true
	}
	return false
}

func printed(v api.Value) string {
	s, e := text.Print(v)
	if e != api.OK {
		return e.Error()
	}
	return s
}

// written is a record as a line.
func written(r api.Record) string {
	words := []string{names()[r.Op]}
	for i, n := range r.Args {
		if r.Op == heap.OpNew && i == 0 {
			words = append(words, kinds()[n])
		} else {
			words = append(words, strconv.Itoa(n))
		}
	}
	if named(r.Op) {
		words = append(words, printed(r.Val))
	}
	return strings.Join(words, " ")
}

// answered is the line that is told of what a heap answers to a record.
func answered(r api.Record, a api.Answer) string {
	handle := "handle " + strconv.Itoa(a.Handle)
	switch {
	case a.Code != api.OK:
		return "error " + strconv.Itoa(int(a.Code))
	case r.Op == heap.OpPush:
		return "ok"
	case r.Op == heap.OpPop && a.Handle >= 0:
		return handle + " " + printed(a.Val)
	case a.Handle >= 0:
		return handle
	}
	return printed(a.Val)
}

// played is a script of records that a source makes, with notes among them, and what plain lists tell of it.
func played(s *sample.Source, steps int) (script, told []string, records []api.Record) {
	plain := &model.Heap{}
	for range steps {
		if s.Below(6) == 0 {
			script = append(script, [...]string{"", "; so", ";", ";tell 0"}[s.Below(4)])
		}
		r := plain.Record(s)
		if !named(r.Op) {
			r.Val = api.Value{}
		}
		script, told, records = append(script, written(r)), append(told, answered(r, plain.Do(r))), append(records, r)
	}
	return script, told, records
}

// 28.1, P2, P11: scripts of all kinds of steps tell what plain lists tell.
func TestAgainstPlainLists(t *testing.T) {
	for seed := range uint64(300) {
		script, told, _ := played(sample.New(seed+100), 60)
		got, at, e := desk.Run(strings.Join(script, "\n"))
		if got != lines(told...) || at != 0 || e != api.OK {
			t.Fatalf("seed %d: %q: %q, %d, %v, want %q", seed, script, got, at, e, told)
		}
	}
}

// P10: what is printed is read as it was, and has the hash that its text has.
func TestPrintedAndRead(t *testing.T) {
	s := sample.New(17)
	for range 500 {
		v := s.Value(3)
		tells(t, "print "+printed(v), printed(v))
		tells(t, lines("new vec 0", "add 0 "+printed(v), "nth 1 0", "new set 5", "add 2 "+printed(v), "get 3 "+printed(v)), "handle 0", "handle 1", printed(v), "handle 2", "handle 3", printed(v))
	}
}
