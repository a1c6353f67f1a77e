package paths_test

import (
	"strings"
	"testing"
	"unsafe"

	"spinney/api"
	"spinney/paths"
	"spinney/sample"
)

// given is what a call is asked with: a value, a path into it, another value.
type given struct {
	v    api.Value
	path []api.Value
	x    api.Value
}

// lists are all that might be shared.
func (g given) lists() [][]api.Value { return [][]api.Value{g.v.Items, g.path, g.x.Items} }

func (g given) same(other given) bool {
	return sample.Same(g.v, other.v) && sample.SameAll(g.path, other.path) && sample.Same(g.x, other.x)
}

func (g given) roomKept() bool {
	return sample.RoomKept(g.v.Items) && sample.RoomKept(g.path) && sample.RoomKept(g.x.Items)
}

// held is made anew each time, with room behind each list: a map of lists and maps whose keys and leaves hold lists and texts.
func held(path []api.Value) given {
	v := dict(
		long("k"), dict(list(num(1), long("a")), list(num(2), list(long("b"))), list(num(3)), set(long("c"), list(long("d")))),
		long("l"), list(list(long("e")), dict(long("f"), list(num(4))), list(num(5))),
	)
	x := dict(long("k"), dict(list(num(3)), list(long("g"))), long("m"), list(num(6), list(long("h"))))
	return given{sample.Roomy(v), sample.RoomyAll(path), sample.Roomy(x)}
}

// long is a text of its own memory, long enough not to be one that the language keeps.
func long(s string) api.Value { return str(strings.Repeat(s, 40)) }

// somePaths lead to all that held has, and to places where nothing stands yet.
func somePaths() [][]api.Value {
	deepKey, ofList := list(num(1), long("a")), long("l")
	return [][]api.Value{
		nil, all(long("k")), all(long("k"), deepKey), all(long("k"), deepKey, num(1)), all(long("k"), deepKey, num(1), num(0)), all(long("k"), list(num(3))), all(long("k"), list(num(3)), long("c")), all(long("k"), list(num(3)), list(long("d"))),
		all(ofList), all(ofList, num(0)), all(ofList, num(0), num(0)), all(ofList, num(1), long("f")), all(ofList, num(1), long("f"), num(0)), all(ofList, num(2)),
		all(long("n")), all(long("n"), list(long("o")), num(1)), all(ofList, num(3)), all(ofList, num(3), deepKey), all(ofList, num(1), deepKey, deepKey), all(long("k"), list(long("p"))),
	}
}

// call is one that tells values or paths, as lists.
type call struct {
	name string
	ask  func(g given) [][]api.Value
}

func calls() []call {
	one := func(v api.Value, _ api.Errno) [][]api.Value { return [][]api.Value{{v}} }
	out := []call{
		{"Get", func(g given) [][]api.Value {
			v, _, _ := paths.Get(g.v, g.path)
			return [][]api.Value{{v}}
		}},
		{"Put", func(g given) [][]api.Value { return one(paths.Put(g.v, g.path, g.x)) }},
		{"Put into nothing", func(g given) [][]api.Value { return one(paths.Put(none(), g.path, g.x)) }},
		{"Drop", func(g given) [][]api.Value { return one(paths.Drop(g.v, g.path)) }},
		{"Leaves", func(g given) [][]api.Value {
			l, _ := paths.Leaves(g.v)
			return l
		}},
		{"Merge", func(g given) [][]api.Value { return one(paths.Merge(g.v, g.x)) }},
		{"Merge the other way", func(g given) [][]api.Value { return one(paths.Merge(g.x, g.v)) }},
		{"Merge of itself", func(g given) [][]api.Value { return one(paths.Merge(g.v, g.v)) }},
		{"Only", func(g given) [][]api.Value { return one(paths.Only(g.v, [][]api.Value{g.path})) }},
		{"Only twice", func(g given) [][]api.Value {
			return one(paths.Only(g.v, [][]api.Value{g.path, {num(9)}, g.path}))
		}},
		{"Only with part of it", func(g given) [][]api.Value {
			return one(paths.Only(g.v, [][]api.Value{g.path, g.path[:len(g.path)/2]}))
		}},
	}
	for fn := range lastFn + 1 {
		out = append(out, call{"Update", func(g given) [][]api.Value { return one(paths.Update(g.v, g.path, fn)) }},
			call{"Walk", func(g given) [][]api.Value { return one(paths.Walk(g.v, fn)) }})
	}
	return out
}

// texts are where the texts of values stand.
func texts(lists ...[]api.Value) []*byte {
	var out []*byte
	for _, l := range lists {
		for _, v := range l {
			if len(v.Text) > 1 {
				out = append(out, unsafe.StringData(v.Text))
			}
			out = append(out, texts(v.Items)...)
		}
	}
	return out
}

// R3: what is handed in stays as it is, spare room too; an answer shares no memory with it, nor do two lists of one answer.
func TestMemory(t *testing.T) {
	for _, path := range somePaths() {
		for _, c := range calls() {
			g := held(path)
			got := c.ask(g)
			if !g.same(held(path)) || !g.roomKept() {
				t.Errorf("%s at %s: changed: %v", c.name, shownPath(path), g)
			}
			if !sample.Apart(append(got, g.lists()...)...) {
				t.Errorf("%s at %s: shares memory", c.name, shownPath(path))
			}
			seen := map[*byte]bool{}
			for _, at := range texts(g.lists()...) {
				seen[at] = true
			}
			for _, at := range texts(got...) {
				if seen[at] {
					t.Errorf("%s at %s: a text that shares memory", c.name, shownPath(path))
				}
				seen[at] = true
			}
		}
	}
}

// R3, R6: written over, arguments and answers change nothing that is told again.
func TestToldAgain(t *testing.T) {
	for _, path := range somePaths() {
		for _, c := range calls() {
			g := held(path)
			want, got := c.ask(g), c.ask(g)
			for _, l := range append(got, g.lists()...) {
				sample.Spoil(l)
			}
			for i, l := range c.ask(held(path)) {
				if !sample.SameAll(l, want[i]) {
					t.Errorf("%s at %s: %v, and then %v", c.name, shownPath(path), want[i], l)
				}
			}
		}
	}
}

// R3: one list of a path's steps, or of paths, that is written over later is not kept.
func TestPathsAreNotKept(t *testing.T) {
	path := sample.RoomyAll(all(list(long("a")), list(long("b"))))
	v, e := paths.Put(none(), path, list(num(1)))
	want := dict(list(long("a")), dict(list(long("b")), list(num(1))))
	told(t, want)(v, e)
	sample.Spoil(path)
	told(t, want)(v, e)
	// Paths that share their room: none is written into.
	whole := sample.RoomyAll(steps(`["a" "b" "c"]`))
	ways := [][]api.Value{whole[:1], whole[:2], whole[:0], whole}
	told(t, read(`{"a" {"b" {"c" 1}}}`))(paths.Only(read(`{"a" {"b" {"c" 1}}}`), ways))
	if !sample.SameAll(whole, steps(`["a" "b" "c"]`)) || !sample.RoomKept(whole) || len(ways[0]) != 1 {
		t.Errorf("changed: %v", whole)
	}
}
