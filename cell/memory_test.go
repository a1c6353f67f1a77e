package cell_test

import (
	"runtime"
	"slices"
	"strings"
	"sync/atomic"
	"testing"
	"time"
	"unsafe"

	"spinney/api"
	"spinney/cell"
	"spinney/sample"
)

// nested is a value that holds lists, in memory of its own.
func nested() api.Value {
	return list(num(1), list(num(2), str("a")), sample.Map(num(3), list(num(4))))
}

// R3: what is handed in stays as it is, and is not kept: of Cons, of Iter, and what a step tells.
func TestArgumentsStay(t *testing.T) {
	v := sample.RoomyAll([]api.Value{nested()})
	step := &told{first: v[0], ok: true}
	for fn := range api.FnHalf + 1 {
		must(t)(cell.Iter(fn, v[0]))
	}
	all := []*cell.Cell{must(t)(cell.Cons(v[0], nil)), cell.Later(step), must(t)(cell.Iter(api.FnSame, v[0])), must(t)(cell.Iter(api.FnInc, v[0])), cell.Later(mapped{api.FnSame, must(t)(cell.Cons(v[0], nil))})}
	unforced := must(t)(cell.Iter(api.FnSame, v[0]))
	for _, c := range all {
		cell.Ahead(c, 1, 2)
	}
	refused(t, api.ErrKind)(cell.Iter(-1, v[0]))
	if !sample.Same(v[0], nested()) || !sample.RoomKept(v) {
		t.Errorf("changed: %v", v)
	}
	sample.Spoil(v)
	for _, c := range all {
		checkItem(t, c, 0, nested(), 0)
	}
	checkItem(t, unforced, 1, nested(), 0)
	wrong := sample.RoomyAll([]api.Value{list(num(1), sample.Bool(2))})
	refused(t, api.ErrValue)(cell.Cons(wrong[0], nil))
	refused(t, api.ErrValue)(cell.Iter(0, wrong[0]))
	checkError(t, cell.Later(&told{first: wrong[0], ok: true}), 1, api.ErrValue)
	if !sample.Same(wrong[0], list(num(1), sample.Bool(2))) || !sample.RoomKept(wrong) {
		t.Errorf("changed: %v", wrong)
	}
}

// R3: writing over an answer changes nothing that is told again, nor what a step keeps, nor what comes behind.
func TestAnswersAreNew(t *testing.T) {
	kept := nested()
	step := &told{first: kept, ok: true}
	for _, c := range []*cell.Cell{must(t)(cell.Cons(nested(), nil)), cell.Later(step), must(t)(cell.Iter(api.FnSame, nested())), must(t)(cell.Iter(api.FnNeg, nested())), cell.Later(mapped{api.FnSame, must(t)(cell.Cons(nested(), nil))})} {
		before, _, _, _, _ := cell.Force(c, 9)
		for range 3 {
			first, rest, _, _, _ := cell.Force(c, 9)
			sample.Spoil(first.Items)
			second, _, ok, _, _ := cell.Force(rest, 9)
			if ok && !sample.Same(second, nested()) {
				t.Errorf("the next item shares memory: %v", second)
			}
			sample.Spoil(second.Items)
		}
		checkItem(t, c, 0, nested(), 0)
		if !sample.Same(before, nested()) {
			t.Errorf("answers share memory: %v", before)
		}
	}
	if !sample.Same(kept, nested()) {
		t.Errorf("what the step keeps was changed: %v", kept)
	}
	// What FnFirst tells is a part of the item ahead of it, in memory of its own.
	c := must(t)(cell.Iter(api.FnFirst, list(list(num(1), num(2)), num(3))))
	checkAhead(t, c, 2, 2, 0, api.OK)
	first, rest, _, _, _ := cell.Force(c, 0)
	sample.Spoil(first.Items)
	checkItem(t, rest, 0, list(num(1), num(2)), 0)
	checkItem(t, c, 0, list(list(num(1), num(2)), num(3)), 0)
}

// R3: a list that stands in an item twice is two lists in the answer.
func TestListsOfOneAnswer(t *testing.T) {
	part := list(num(1), list(num(2)))
	for _, c := range []*cell.Cell{must(t)(cell.Cons(list(part, part), nil)), must(t)(cell.Iter(api.FnSame, list(part, part))), cell.Later(&told{first: list(part, part), ok: true})} {
		first, _, _, _, _ := cell.Force(c, 1)
		sample.Spoil(first.Items[0].Items)
		if !sample.Same(first.Items[1], list(num(1), list(num(2)))) {
			t.Errorf("lists share memory: %v", first)
		}
	}
}

// R3
func TestTextsAreNew(t *testing.T) {
	long := strings.Repeat("a", api.MaxText)
	seen := []*byte{unsafe.StringData(long)}
	for _, c := range []*cell.Cell{must(t)(cell.Cons(str(long), nil)), must(t)(cell.Iter(api.FnSame, str(long))), cell.Later(&told{first: str(long), ok: true})} {
		for range 3 {
			first, rest, _, _, _ := cell.Force(c, 1)
			told := []api.Value{first}
			if next, _, ok, _, _ := cell.Force(rest, 1); ok {
				told = append(told, next)
			}
			for _, v := range told {
				at := unsafe.StringData(v.Text)
				if v.Text != long || slices.Contains(seen, at) {
					t.Errorf("the text is not new memory: %q", v.Text)
				}
				seen = append(seen, at)
			}
		}
	}
}

// R2: an item whose list is nil or empty is the same.
func TestNilAndEmptyLists(t *testing.T) {
	for _, v := range []api.Value{{Kind: api.VList}, {Kind: api.VSet}, {Kind: api.VMap}, {}, num(3), str("a")} {
		w := v
		w.Items = []api.Value{}
		checkItem(t, must(t)(cell.Cons(w, nil)), 0, v, 0)
		checkItem(t, must(t)(cell.Iter(api.FnSame, w)), 1, v, 0)
		checkItem(t, cell.Later(&told{first: w, ok: true}), 1, v, 0)
	}
}

// The chapter's ways: a cell that is forced lets its step go; one that is not, or whose step told an error, keeps it.
func TestStepsGo(t *testing.T) {
	var gone, kept, failed atomic.Bool
	forced := cell.Later(watched(&gone, &told{first: num(1), ok: true}))
	lazy := cell.Later(watched(&kept, &told{first: num(2), ok: true}))
	wrong := cell.Later(watched(&failed, &told{e: api.ErrPath}))
	checkItem(t, forced, 1, num(1), 0)
	checkError(t, wrong, 1, api.ErrPath)
	for range 1000 {
		runtime.GC()
		if gone.Load() {
			break
		}
		time.Sleep(time.Millisecond)
	}
	if !gone.Load() || kept.Load() || failed.Load() {
		t.Errorf("gone: of a forced cell %v, of one that was not %v, of one in vain %v", gone.Load(), kept.Load(), failed.Load())
	}
	checkItem(t, forced, 0, num(1), 0)
	checkItem(t, lazy, 1, num(2), 0)
	checkError(t, wrong, 1, api.ErrPath)
}

// watched is a step of which it is noted when nobody has it any more.
func watched(gone *atomic.Bool, s *told) *told {
	runtime.SetFinalizer(s, func(*told) { gone.Store(true) })
	return s
}
