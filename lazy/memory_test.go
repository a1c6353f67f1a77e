package lazy_test

import (
	"slices"
	"strings"
	"testing"
	"unsafe"

	"spinney/api"
	"spinney/cell"
	"spinney/lazy"
	"spinney/sample"
	"spinney/seq"
)

// nested is a value that holds lists, in memory of its own.
func nested() api.Value {
	return list(num(1), list(num(2), str("a")), sample.Map(num(3), list(num(4))))
}

// ofNested are seqs of all kinds, each of whose first two items hold nested().
func ofNested(t *testing.T, l []api.Value) []*cell.Cell {
	t.Helper()
	return []*cell.Cell{
		must(t)(lazy.Map(api.FnSame, listed(t, l...))), must(t)(lazy.Map(api.FnInc, listed(t, l...))), must(t)(lazy.Keep(api.IsColl, listed(t, l...))), must(t)(lazy.Take(2, listed(t, l...))), must(t)(lazy.Drop(0, listed(t, l...))), must(t)(lazy.Join([]*cell.Cell{listed(t, l...)})),
		must(t)(lazy.While(api.IsColl, listed(t, l...))), must(t)(lazy.Turn([]*cell.Cell{listed(t, l...), listed(t, l...)})), must(t)(lazy.Cycle(l)), must(t)(lazy.Steps(api.TwoLeft, l[0], listed(t, l...))), must(t)(lazy.Steps(api.TwoRight, l[0], listed(t, l...))),
	}
}

// R3: what is handed in stays as it is, spare room too, and is not kept: before a cell is forced, and behind.
func TestArgumentsStay(t *testing.T) {
	want := []api.Value{nested(), nested()}
	for _, early := range []bool{true, false} {
		l := sample.RoomyAll(want)
		all := ofNested(t, l)
		if early {
			for _, c := range all {
				cell.Ahead(c, 2, 9)
			}
		}
		if !sample.SameAll(l, want) || !sample.RoomKept(l) {
			t.Errorf("changed: %v", l)
		}
		sample.Spoil(l)
		for i, c := range all {
			if told, _, e := seq.Take(c, 2, 9); !sample.SameAll(told, want) || e != api.OK {
				t.Errorf("seq %d: %v, %v", i, told, e)
			}
		}
	}
	wrong := sample.RoomyAll([]api.Value{nested(), sample.Bool(2)})
	refused(t, api.ErrValue)(lazy.Cycle(wrong))
	refused(t, api.ErrValue)(lazy.Steps(0, wrong[1], nil))
	if !sample.SameAll(wrong, []api.Value{nested(), sample.Bool(2)}) || !sample.RoomKept(wrong) {
		t.Errorf("changed: %v", wrong)
	}
}

// R3: a list of cells that is written over later, and its spare room, are neither seen nor changed.
func TestListsOfCellsStay(t *testing.T) {
	for _, combine := range []func([]*cell.Cell) (*cell.Cell, api.Errno){lazy.Join, lazy.Turn} {
		a, b, room := listed(t, nums(1)...), listed(t, nums(2)...), listed(t, nums(3)...)
		l := []*cell.Cell{a, b, room, room}
		c, again := must(t)(combine(l[:2])), must(t)(combine(l[:2]))
		checkTake(t, c, 2, 9, nums(1, 2), 7)
		checkItems(t, c, nums(1, 2)...)
		if l[0] != a || l[1] != b || l[2] != room || l[3] != room {
			t.Errorf("the list was changed")
		}
		clear(l)
		checkItems(t, c, nums(1, 2)...)
		checkItems(t, again, nums(1, 2)...)
	}
}

// R3: writing over an answer changes nothing that is told again, nor what comes behind, nor what is below.
func TestAnswersAreNew(t *testing.T) {
	want := []api.Value{nested(), nested()}
	for i, c := range ofNested(t, want) {
		before, _, _ := seq.Take(c, 2, 9)
		for range 3 {
			l, _, _ := seq.Take(c, 2, 0)
			sample.Spoil(l[0].Items)
			if !sample.Same(l[1], nested()) {
				t.Errorf("seq %d: two lists of one answer share memory", i)
			}
			sample.Spoil(l[1].Items)
		}
		if again, _, _ := seq.Take(c, 2, 0); !sample.SameAll(again, want) || !sample.SameAll(before, want) {
			t.Errorf("seq %d: answers share memory: %v, %v", i, before, again)
		}
	}
	// Parts, and what is below them.
	below := listed(t, want...)
	c := must(t)(lazy.Parts(2, below))
	l, _, _ := seq.Take(c, 1, 9)
	sample.Spoil(l[0].Items[0].Items)
	if !sample.Same(l[0].Items[1], nested()) {
		t.Errorf("two lists of one answer share memory")
	}
	sample.Spoil(l[0].Items)
	checkTake(t, c, 1, 0, []api.Value{list(want...)}, 0)
	checkTake(t, below, 2, 0, want, 0)
	run, _, _ := lazy.Run(api.Plan{Kind: api.PlanCycle, List: []api.Value{nested()}}, 2, 9)
	sample.Spoil(run[0].Items)
	if !sample.Same(run[1], nested()) {
		t.Errorf("two lists of one answer share memory")
	}
}

// R3
func TestTextsAreNew(t *testing.T) {
	long := strings.Repeat("a", api.MaxText)
	seen := []*byte{unsafe.StringData(long)}
	for i, c := range ofNested(t, []api.Value{list(str(long)), list(str(long))}) {
		for range 2 {
			l, _, _ := seq.Take(c, 2, 9)
			for _, v := range l {
				at := unsafe.StringData(v.Items[0].Text)
				if v.Items[0].Text != long || slices.Contains(seen, at) {
					t.Errorf("seq %d: the text is not new memory: %q", i, v.Items[0].Text)
				}
				seen = append(seen, at)
			}
		}
	}
}

// R2: lists that are nil and those that are empty are the same.
func TestNilAndEmptyLists(t *testing.T) {
	for _, v := range []api.Value{{Kind: api.VList}, {Kind: api.VSet}, {Kind: api.VMap}, {}, num(3)} {
		w := v
		w.Items = []api.Value{}
		for i, c := range []*cell.Cell{must(t)(lazy.Cycle([]api.Value{w})), must(t)(lazy.Steps(api.TwoLeft, w, nil)), must(t)(lazy.Map(api.FnSame, listed(t, w)))} {
			if l, _, e := seq.Take(c, 1, 9); !sample.SameAll(l, []api.Value{v}) || e != api.OK {
				t.Errorf("seq %d: %v, %v", i, l, e)
			}
		}
	}
}
