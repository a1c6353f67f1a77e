package algebra_test

import (
	"strings"
	"testing"
	"unsafe"

	"spinney/algebra"
	"spinney/api"
	"spinney/sample"
)

// call is one that tells lists: what it is asked with, and all that it told.
type call struct {
	name string
	ask  func(v api.Value, l []api.Value) [][]api.Value
}

// calls are those in which members, or a first value, are told again.
func calls() []call {
	value := func(v api.Value, _ api.Errno) [][]api.Value { return [][]api.Value{{v}} }
	values := func(l []api.Value, _ api.Errno) [][]api.Value { return [][]api.Value{l} }
	out := []call{
		{"Counts", func(_ api.Value, l []api.Value) [][]api.Value { return value(algebra.Counts(l)) }},
		{"Distinct", func(_ api.Value, l []api.Value) [][]api.Value { return values(algebra.Distinct(l)) }},
		{"Into a list", func(v api.Value, l []api.Value) [][]api.Value { return value(algebra.Into(v, l)) }},
		{"Into nothing", func(_ api.Value, l []api.Value) [][]api.Value { return value(algebra.Into(none(), l)) }},
		{"Into a set", func(v api.Value, l []api.Value) [][]api.Value {
			return value(algebra.Into(set(v.Items...), l))
		}},
		{"Into a map", func(v api.Value, l []api.Value) [][]api.Value {
			return value(algebra.Into(dict(v.Items...), all(list(l...))))
		}},
		{"Parts", func(_ api.Value, l []api.Value) [][]api.Value { return values(algebra.Parts(2, l)) }},
		{"Parts of one", func(_ api.Value, l []api.Value) [][]api.Value { return values(algebra.Parts(1, l)) }},
	}
	for fn := range lastTwo + 1 {
		out = append(out, call{"Reduce", func(v api.Value, l []api.Value) [][]api.Value {
			got, _, _ := algebra.Reduce(fn, v, l)
			return [][]api.Value{{got}}
		}}, call{"Steps", func(v api.Value, l []api.Value) [][]api.Value { return values(algebra.Steps(fn, v, l)) }},
			call{"Reduce nothing", func(v api.Value, _ []api.Value) [][]api.Value {
				got, _, _ := algebra.Reduce(fn, v, nil)
				return [][]api.Value{{got}}
			}})
	}
	for fn := range lastFn + 1 {
		out = append(out, call{"Groups", func(_ api.Value, l []api.Value) [][]api.Value { return value(algebra.Groups(fn, l)) }})
	}
	for q := range lastIs + 1 {
		out = append(out, call{"Split", func(_ api.Value, l []api.Value) [][]api.Value {
			ahead, others, _ := algebra.Split(q, l)
			return [][]api.Value{ahead, others}
		}})
	}
	return out
}

// held are a list of lists, and members that hold lists and texts of their own.
func held() (api.Value, []api.Value) {
	long := strings.Repeat("é", 40)
	a := list(num(1), list(num(2), str(long+"a")))
	b := list(num(1), set(str(long+"b"), list(str(long+"c"))))
	return sample.Roomy(list(a, b)), sample.RoomyAll(all(a, b))
}

// texts are where the texts of values stand that are longer than one byte.
func texts(l []api.Value) []*byte {
	var out []*byte
	for _, v := range l {
		if len(v.Text) > 1 {
			out = append(out, unsafe.StringData(v.Text))
		}
		out = append(out, texts(v.Items)...)
	}
	return out
}

// R3: what is handed in stays as it is, spare room too; an answer shares no memory with it, nor do two lists of one answer.
func TestMemory(t *testing.T) {
	wantFirst, wantList := held()
	for _, c := range calls() {
		v, l := held()
		got := c.ask(v, l)
		if !sample.Same(v, wantFirst) || !sample.SameAll(l, wantList) || !sample.RoomKept(v.Items) || !sample.RoomKept(l) {
			t.Errorf("%s: changed: %v, %v", c.name, v, l)
		}
		if !sample.Apart(append(got, v.Items, l)...) {
			t.Errorf("%s: %v shares memory", c.name, got)
		}
		seen := map[*byte]bool{}
		for _, at := range append(texts(v.Items), texts(l)...) {
			seen[at] = true
		}
		for _, told := range got {
			for _, at := range texts(told) {
				if seen[at] {
					t.Errorf("%s: a text that shares memory", c.name)
				}
				seen[at] = true
			}
		}
		// Written over, an answer changes nothing that is told again.
		again := c.ask(v, l)
		for i := range got {
			sample.Spoil(got[i])
		}
		sample.Spoil(v.Items)
		sample.Spoil(l)
		v, l = held()
		for i, told := range c.ask(v, l) {
			if !sample.SameAll(told, again[i]) {
				t.Errorf("%s: %v, and then %v", c.name, told, again[i])
			}
		}
	}
}

// R3, R4: wrong arguments stay, too.
func TestWrongArgumentsStay(t *testing.T) {
	want := all(list(num(1), list(num(2))), sample.Bool(2))
	l := sample.RoomyAll(want)
	ofLists(t, l, api.ErrValue)
	if !sample.SameAll(l, want) || !sample.RoomKept(l) {
		t.Errorf("changed: %v", l)
	}
}
