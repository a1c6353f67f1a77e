package paths_test

import (
	"testing"

	"spinney/api"
	"spinney/paths"
	"spinney/sample"
)

// throughSet tells whether a step of a path is taken in a set.
func throughSet(v api.Value, path []api.Value) bool {
	for n := range path {
		if under, _, _ := paths.Get(v, path[:n]); under.Kind == api.VSet {
			return true
		}
	}
	return false
}

// 26.6: Get of Put at the same path is what was put; Put twice at one path is the second one; Put of what stands there is the value, but within a set.
func TestPutAndGet(t *testing.T) {
	s, put, stood, within := sample.New(21), 0, 0, 0
	for _, v := range append(few(), s.Values(800, 4)...) {
		path, x, y := wander(s, v), s.Value(3), s.Value(2)
		if first, e := paths.Put(v, path, x); e == api.OK {
			put++
			checkGet(t, first, path, x)
			second, e := paths.Put(v, path, y)
			if e != api.OK {
				t.Fatalf("Put(%s, %s, %s): %v", shown(v), shownPath(path), shown(y), e)
			}
			told(t, second)(paths.Put(first, path, y))
			told(t, first)(paths.Put(first, path, x))
		}
		old, ok, _ := paths.Get(v, path)
		switch {
		case ok && throughSet(v, path):
			within++
			refused(t, api.ErrPath)(paths.Put(v, path, old))
		case ok:
			stood++
			told(t, v)(paths.Put(v, path, old))
			told(t, v)(paths.Update(v, path, api.FnSame))
		}
	}
	if put < 100 || stood < 100 || within < 10 {
		t.Errorf("%d were put, %d stood there, %d within sets", put, stood, within)
	}
}

// 26.7: a value is Merge of itself and itself; Walk of FnSame is the value.
func TestValueAgain(t *testing.T) {
	s := sample.New(22)
	for _, v := range append(append(few(), s.Values(500, 4)...), deep(16), numbers(api.MaxParts-1), keyed(511), none()) {
		told(t, v)(paths.Merge(v, v))
		told(t, v)(paths.Walk(v, api.FnSame))
		told(t, v)(paths.Only(v, [][]api.Value{nil}))
	}
}

// 26.7: Leaves lead to leaves, each to another one; FnKind of all of them is what Walk puts there.
func TestLeavesLeadToLeaves(t *testing.T) {
	s := sample.New(23)
	for _, v := range append(few(), s.Values(500, 4)...) {
		ways, _ := paths.Leaves(v)
		kinds, e := paths.Walk(v, api.FnKind)
		if len(ways) == 0 || e != api.OK {
			t.Fatalf("Leaves(%s): %v; Walk: %v", shown(v), ways, e)
		}
		for i, path := range ways {
			leaf, ok, _ := paths.Get(v, path)
			if !ok || len(leaf.Items) > 0 && leaf.Kind != api.VSet {
				t.Errorf("Leaves(%s): %s: %s", shown(v), shownPath(path), shown(leaf))
			}
			checkGet(t, kinds, path, num(int64(leaf.Kind)))
			for _, other := range ways[:i] {
				if sample.SameAll(other, path) {
					t.Errorf("Leaves(%s): %s twice", shown(v), shownPath(path))
				}
			}
		}
	}
}

// 26.7: Drop of what Put put where nothing stood in a map, by a path of one step, is the map as it was.
func TestDropOfPut(t *testing.T) {
	s, n := sample.New(24), 0
	for _, v := range append(few(), s.Values(800, 3)...) {
		path := all(s.Value(2))
		if _, ok, _ := paths.Get(v, path); ok || v.Kind != api.VMap {
			continue
		}
		n++
		with, e := paths.Put(v, path, s.Value(3))
		if e != api.OK {
			t.Fatalf("Put(%s, %s): %v", shown(v), shownPath(path), e)
		}
		told(t, v)(paths.Drop(with, path))
	}
	if n < 50 {
		t.Errorf("%d maps", n)
	}
}

// P9: what stands at a path stands there in what is Only there; all leaves of maps within maps are the map.
func TestOnlyLaws(t *testing.T) {
	s := sample.New(25)
	for _, v := range s.Values(500, 4) {
		path := wander(s, v)
		only, e := paths.Only(v, [][]api.Value{path})
		if x, ok, _ := paths.Get(v, path); ok {
			checkGet(t, only, path, x)
		} else {
			told(t, dict())(only, e)
		}
	}
	for _, v := range []string{`{}`, `{1 2}`, `{1 {2 {3 4, 5 #{6}}, 7 {}}, "a" {"b" nil}}`, `{[1] {[2] []}}`} {
		ways, _ := paths.Leaves(read(v))
		told(t, read(v))(paths.Only(read(v), ways))
	}
}

// P9: what is dropped stands there no more, but where a list's items came to the front; all that stands elsewhere in maps stays.
func TestDropAndGet(t *testing.T) {
	s := sample.New(26)
	for _, v := range append(few(), s.Values(500, 4)...) {
		path := wander(s, v)
		if len(path) == 0 {
			continue
		}
		last := len(path) - 1
		under, ok, _ := paths.Get(v, path[:last])
		less, e := paths.Drop(v, path)
		if !ok || e != api.OK {
			continue
		}
		if under.Kind != api.VList {
			checkNothing(t, less, path, api.OK)
		}
		without, e := paths.Drop(under, path[last:])
		checkGet(t, less, path[:last], without)
		if e != api.OK {
			t.Errorf("Drop(%s, %s): %v", shown(under), shownPath(path[last:]), e)
		}
	}
}
