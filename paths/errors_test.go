package paths_test

import (
	"testing"

	"spinney/api"
	"spinney/paths"
	"spinney/sample"
)

// atPaths asks all calls for a value and a path, with other arguments that are right, and hands on the error; beside it stand zeros.
func atPaths(t *testing.T, v api.Value, path []api.Value, want api.Errno) {
	t.Helper()
	checkNothing(t, v, path, want)
	refused(t, want)(paths.Put(v, path, num(1)))
	refused(t, want)(paths.Put(v, path, sample.Bool(2)))
	for _, fn := range append(sample.Beyond(lastFn), 0, lastFn) {
		refused(t, want)(paths.Update(v, path, fn))
	}
	refused(t, want)(paths.Drop(v, path))
	refused(t, want)(paths.Only(v, [][]api.Value{path}))
}

// R1: a value that is not right, ahead of all else.
func TestWrongValues(t *testing.T) {
	for _, w := range sample.Wrongs() {
		for _, path := range [][]api.Value{nil, {}, {num(0)}, {sample.Bool(2)}, zeros(17)} {
			atPaths(t, w, path, api.ErrValue)
		}
		if l, e := paths.Leaves(w); len(l) != 0 || e != api.ErrValue {
			t.Errorf("Leaves(%s): %v, %v", shown(w), l, e)
		}
		for _, fn := range append(sample.Beyond(lastFn), 0, lastFn) {
			refused(t, api.ErrValue)(paths.Walk(w, fn))
		}
		for _, other := range []api.Value{num(1), dict(), w} {
			refused(t, api.ErrValue)(paths.Merge(w, other))
			refused(t, api.ErrValue)(paths.Merge(other, w))
		}
		refused(t, api.ErrValue)(paths.Only(w, nil))
		refused(t, api.ErrValue)(paths.Only(w, make([][]api.Value, api.MaxLen+1)))
	}
}

// R1 and the chapter: a path that is too long, ahead of its steps; a step that is not right, wherever it stands, even where nothing leads to it.
func TestWrongPaths(t *testing.T) {
	for _, v := range []api.Value{none(), num(5), list(), deep(16), set(num(1)), dict(num(0), dict())} {
		for _, n := range []int{17, 18, 1000, api.MaxLen, api.MaxLen + 1} {
			atPaths(t, v, zeros(n), api.ErrLong)
			atPaths(t, v, append(all(sample.Bool(2)), zeros(n-1)...), api.ErrLong)
		}
		for _, w := range sample.Wrongs() {
			atPaths(t, v, all(w), api.ErrValue)
			atPaths(t, v, all(str("nowhere"), w), api.ErrValue)
			atPaths(t, v, append(all(w), zeros(15)...), api.ErrValue)
			atPaths(t, v, append(zeros(15), w), api.ErrValue)
		}
	}
}

// R1: what is to be put, behind the path, ahead of ErrPath and ErrLong.
func TestWrongPut(t *testing.T) {
	for _, w := range sample.Wrongs() {
		for _, path := range [][]api.Value{nil, {num(0)}, {num(5)}, {num(0), num(0)}} {
			refused(t, api.ErrValue)(paths.Put(list(num(1)), path, w))
			refused(t, api.ErrValue)(paths.Put(none(), path, w))
			refused(t, api.ErrValue)(paths.Put(numbers(api.MaxParts-1), path, w))
		}
	}
}

// 26.2, 26.4: functions that are none, ahead of ErrPath and ErrLong, at the empty path too.
func TestWrongFunctions(t *testing.T) {
	for _, fn := range sample.Beyond(lastFn) {
		for _, v := range []api.Value{none(), num(5), list(), numbers(api.MaxParts - 1), dict(num(0), num(1)), set(num(0))} {
			for _, path := range [][]api.Value{nil, {num(0)}, {num(api.MaxParts - 1)}, {num(-1)}, {num(0), num(0)}} {
				refused(t, api.ErrKind)(paths.Update(v, path, fn))
			}
			refused(t, api.ErrKind)(paths.Walk(v, fn))
		}
	}
}

// 26.5: more than MaxLen paths, ahead of the paths; of each path its errors, ahead of ErrPath of an earlier one.
func TestWrongListsOfPaths(t *testing.T) {
	wrong := all(sample.Bool(2))
	long := make([][]api.Value, api.MaxLen+1)
	v := set(num(1))
	refused(t, api.ErrLong)(paths.Only(v, long))
	long[0] = wrong
	refused(t, api.ErrLong)(paths.Only(v, long))
	refused(t, api.ErrValue)(paths.Only(v, long[:api.MaxLen]))
	refused(t, api.ErrValue)(paths.Only(v, [][]api.Value{nil, {num(1)}, wrong}))
	refused(t, api.ErrLong)(paths.Only(v, [][]api.Value{nil, {num(1)}, zeros(17)}))
	refused(t, api.ErrLong)(paths.Only(v, [][]api.Value{zeros(17), wrong}))
	refused(t, api.ErrValue)(paths.Only(v, [][]api.Value{wrong, zeros(17)}))
	refused(t, api.ErrPath)(paths.Only(v, [][]api.Value{nil, {num(1)}, zeros(16)}))
	refused(t, api.ErrValue)(paths.Only(v, [][]api.Value{zeros(16), {num(1), num(2), sample.Bool(2)}, zeros(17)}))
}

// 26.3: the empty path is none that can be dropped, whatever the value.
func TestDropOfNoPath(t *testing.T) {
	for _, v := range []api.Value{none(), num(5), str("a"), list(), set(), dict(), deep(16), numbers(api.MaxParts - 1)} {
		refused(t, api.ErrPath)(paths.Drop(v, nil))
		refused(t, api.ErrPath)(paths.Drop(v, []api.Value{}))
	}
}
