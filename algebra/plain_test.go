package algebra_test

import (
	"slices"
	"testing"

	"spinney/algebra"
	"spinney/api"
	"spinney/fns"
	"spinney/model"
	"spinney/sample"
	"spinney/text"
	"spinney/value"
)

// someLists are lists of few values that are there often, of many, of numbers, and of pairs.
func someLists(seed uint64, n int) [][]api.Value {
	s := sample.New(seed)
	var out [][]api.Value
	for range n {
		pool := s.Values(1+s.Below(6), 2)
		var few, numbers, pairs []api.Value
		for range s.Below(12) {
			few = append(few, pool[s.Below(len(pool))])
			numbers = append(numbers, num(int64(s.Below(80)-15)))
			pairs = append(pairs, list(pool[s.Below(len(pool))], s.Value(1)))
		}
		out = append(out, few, numbers, pairs, s.Values(s.Below(9), 3), append(numbers, few...))
	}
	return append(out, nil, []api.Value{})
}

// made is a value that plain lists tell, and the error beside it: ErrLong, if it is not right.
func made(kind int, items []api.Value) (api.Value, api.Errno) {
	v := api.Value{Kind: kind, Items: items}
	if value.Check(v) != api.OK {
		return none(), api.ErrLong
	}
	return v, api.OK
}

func contains(l []api.Value, v api.Value) bool {
	return slices.ContainsFunc(l, func(x api.Value) bool { return sample.Same(x, v) })
}

// reduced goes over a list place by place.
func reduced(fn int, first api.Value, l []api.Value) []api.Value {
	steps, stops := all(first), false
	for i := 0; i < len(l) && !stops; i++ {
		var next api.Value
		next, stops, _ = fns.Two(fn, steps[i], l[i])
		steps = append(steps, next)
	}
	return steps
}

// grouped are pairs, in the order of their keys: what of makes of each list of members with one key.
func grouped(keys, l []api.Value, of func([]api.Value) api.Value) []api.Value {
	var out []api.Value
	done := []api.Value{}
	for _, k := range keys {
		if contains(done, k) {
			continue
		}
		done = append(done, k)
		var members []api.Value
		for i := range l {
			if sample.Same(keys[i], k) {
				members = append(members, l[i])
			}
		}
		at := 0
		for at < len(out) && value.Compare(out[at], k) < 0 {
			at += 2
		}
		out = slices.Insert(out, at, k, of(members))
	}
	return out
}

// into goes by the kinds, member by member.
func into(v api.Value, l []api.Value) (api.Value, api.Errno) {
	switch v.Kind {
	case api.VNil, api.VList:
		return made(api.VList, append(slices.Clone(v.Items), l...))
	case api.VSet:
		items := slices.Clone(v.Items)
		for _, x := range l {
			if !contains(items, x) {
				items = append(items, x)
			}
		}
		slices.SortFunc(items, value.Compare)
		return made(api.VSet, items)
	case api.VMap:
		pairs, _ := value.Pairs(v)
		for _, x := range l {
			if x.Kind != api.VList || len(x.Items) != 2 {
				return none(), api.ErrArg
			}
			pairs = model.Put(pairs, x.Items[0], x.Items[1])
		}
		var items []api.Value
		for _, p := range model.InOrder(0, pairs) {
			items = append(items, p.Key, p.Val)
		}
		return made(api.VMap, items)
	}
	return none(), api.ErrArg
}

func parted(n int, l []api.Value) []api.Value {
	var out []api.Value
	for i, v := range l {
		if i%n == 0 {
			out = append(out, list())
		}
		last := &out[len(out)-1]
		last.Items = append(last.Items, v)
	}
	return out
}

// agrees holds what a call tells against a plain value, and prints and reads it (P10).
func agrees(t *testing.T, want api.Value, wantError api.Errno) func(api.Value, api.Errno) {
	t.Helper()
	return func(got api.Value, e api.Errno) {
		t.Helper()
		if !sample.Same(got, want) || e != wantError {
			t.Errorf("%s, %v, want %s, %v", short(got), e, short(want), wantError)
		}
		printed, e := text.Print(got)
		if back, e2, _ := text.Read(printed); e != api.OK || e2 != api.OK || !sample.Same(back, want) {
			t.Errorf("%s: printed %s, read %s", short(want), printed, short(back))
		}
	}
}

// P2, 25.1
func TestReductionsAgainstPlainLists(t *testing.T) {
	s := sample.New(2)
	for _, l := range someLists(1, 120) {
		for fn := range lastTwo + 1 {
			for _, first := range []api.Value{num(0), num(90), s.Value(2)} {
				want := reduced(fn, first, l)
				got, e := algebra.Steps(fn, first, l)
				checkList(t, got, e, want)
				checkReduce(t, fn, first, l, want[len(want)-1], len(want)-1)
			}
		}
	}
}

// P2, 25.2
func TestGroupsAgainstPlainLists(t *testing.T) {
	listed := func(members []api.Value) api.Value { return list(members...) }
	counted := func(members []api.Value) api.Value { return num(int64(len(members))) }
	lists := someLists(3, 120)
	for _, n := range []int{340, 345, 510, 515, 1020, 1025} {
		lists = append(lists, sample.Numbers(n), sample.New(uint64(n)).Values(n/5, 2))
	}
	for _, l := range lists {
		for fn := range lastFn + 1 {
			var keys []api.Value
			for _, v := range l {
				k, _ := fns.One(fn, v)
				keys = append(keys, k)
			}
			want, e := made(api.VMap, grouped(keys, l, listed))
			agrees(t, want, e)(algebra.Groups(fn, l))
		}
		want, e := made(api.VMap, grouped(l, l, counted))
		agrees(t, want, e)(algebra.Counts(l))
		var firsts []api.Value
		for _, v := range l {
			if !contains(firsts, v) {
				firsts = append(firsts, v)
			}
		}
		got, e := algebra.Distinct(l)
		checkList(t, got, e, firsts)
	}
}

// P2, 25.3
func TestIntoAgainstPlainLists(t *testing.T) {
	s := sample.New(4)
	for _, l := range someLists(5, 150) {
		values := append(s.Values(6, 2), list(), set(), dict(), none())
		// Those that hold some of l already.
		if v, e := value.Set(l); e == api.OK {
			values = append(values, v)
		}
		if v, e := into(dict(), l); e == api.OK {
			values = append(values, v)
		}
		for _, v := range values {
			want, e := into(v, l)
			agrees(t, want, e)(algebra.Into(v, l))
		}
	}
}

// P2, 25.4
func TestPartsAndSplitAgainstPlainLists(t *testing.T) {
	for _, l := range someLists(6, 150) {
		for n := 1; n <= len(l)+1; n++ {
			got, e := algebra.Parts(n, l)
			checkList(t, got, e, parted(n, l))
		}
		for q := range lastIs + 1 {
			at := 0
			for at < len(l) {
				is, _ := fns.Is(q, l[at])
				if !is {
					break
				}
				at++
			}
			checkSplit(t, q, l, at)
		}
	}
}
