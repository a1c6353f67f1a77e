package algebra_test

import (
	"slices"
	"testing"

	"spinney/algebra"
	"spinney/api"
	"spinney/fns"
	"spinney/sample"
	"spinney/value"
)

// 25.5: the last one of Steps is what Reduce tells; there are as many as were taken, and one.
func TestLastStepIsReduce(t *testing.T) {
	s := sample.New(11)
	for _, l := range someLists(12, 80) {
		for fn := range lastTwo + 1 {
			first := s.Value(2)
			steps, _ := algebra.Steps(fn, first, l)
			v, taken, e := algebra.Reduce(fn, first, l)
			if len(steps) != taken+1 || !sample.Same(steps[taken], v) || !sample.Same(steps[0], first) || e != api.OK {
				t.Errorf("Steps(%d, %s, %s): %s; Reduce: %s, %d", fn, short(first), short(l), short(steps), short(v), taken)
			}
		}
	}
}

// 25.5: Reduce of two lists, one behind the other, is Reduce of the second one from that of the first, where that did not stop; else it is that.
func TestReduceGoesOn(t *testing.T) {
	s, stopped, went := sample.New(13), 0, 0
	for _, l := range someLists(14, 80) {
		at := s.Below(len(l) + 1)
		for fn := range lastTwo + 1 {
			first := []api.Value{num(0), num(95), s.Value(2)}[s.Below(3)]
			half, taken, _ := algebra.Reduce(fn, first, l[:at])
			// One member more is taken, where it did not stop.
			_, more, _ := algebra.Reduce(fn, first, append(slices.Clone(l[:at]), none()))
			if more == at+1 {
				v, n, _ := algebra.Reduce(fn, half, l[at:])
				checkReduce(t, fn, first, l, v, at+n)
				went++
				continue
			}
			checkReduce(t, fn, first, l, half, taken)
			stopped++
		}
	}
	if stopped == 0 || went == 0 {
		t.Errorf("%d stopped, %d went on", stopped, went)
	}
}

// 25.5: Counts of a list has just its Distinct members; P9: all counts together are as many as there are members.
func TestCountsHaveDistinctMembers(t *testing.T) {
	for _, l := range someLists(15, 200) {
		counts, e := algebra.Counts(l)
		if e != api.OK {
			t.Fatalf("Counts(%s): %v", short(l), e)
		}
		var keys []api.Value
		var sum int64
		pairs, _ := value.Pairs(counts)
		for _, p := range pairs {
			keys = append(keys, p.Key)
			sum += p.Val.Num
		}
		firsts, _ := algebra.Distinct(l)
		sorted, _ := value.Sort(firsts)
		checkList(t, keys, e, sorted)
		if sum != int64(len(l)) {
			t.Errorf("Counts(%s): %s", short(l), short(counts))
		}
	}
}

// P9: groups hold all members, each in the group of its key; by FnSame they are as long as the counts.
func TestGroupsHoldAll(t *testing.T) {
	for _, l := range someLists(16, 100) {
		sorted, _ := value.Sort(l)
		for fn := range lastFn + 1 {
			groups, e := algebra.Groups(fn, l)
			var members []api.Value
			pairs, _ := value.Pairs(groups)
			for _, p := range pairs {
				for _, v := range p.Val.Items {
					if k, _ := fns.One(fn, v); !sample.Same(k, p.Key) {
						t.Errorf("%s in the group of %s", short(v), short(p.Key))
					}
				}
				members = append(members, p.Val.Items...)
			}
			slices.SortFunc(members, value.Compare)
			checkList(t, members, e, sorted)
		}
		groups, _ := algebra.Groups(api.FnSame, l)
		for i := 1; i < len(groups.Items); i += 2 {
			groups.Items[i] = num(int64(len(groups.Items[i].Items)))
		}
		told(t, groups)(algebra.Counts(l))
	}
}

// P9: what is distinct is so again, and stays it beside what is there already.
func TestDistinctAgain(t *testing.T) {
	for _, l := range someLists(17, 100) {
		firsts, e := algebra.Distinct(l)
		for _, again := range [][]api.Value{firsts, slices.Concat(l, l), slices.Concat(firsts, l), slices.Concat(l, firsts)} {
			got, _ := algebra.Distinct(again)
			checkList(t, got, e, firsts)
		}
		// A set is there first, and so are those that are in it.
		if whole, e := value.Set(l); e == api.OK {
			told(t, whole)(algebra.Into(set(), firsts))
			told(t, whole)(algebra.Into(whole, l))
		}
	}
}

// P9: Into of two lists, one behind the other, is Into of the second one into that of the first.
func TestIntoGoesOn(t *testing.T) {
	s := sample.New(18)
	for _, l := range someLists(19, 100) {
		at := s.Below(len(l) + 1)
		for _, v := range append(s.Values(3, 2), none(), list(num(1)), set(num(1)), dict(num(1), num(1))) {
			whole, e := algebra.Into(v, l)
			if e != api.OK {
				continue
			}
			half, _ := algebra.Into(v, l[:at])
			told(t, whole)(algebra.Into(half, l[at:]))
		}
		// A list of them is what TwoConj makes.
		conj, _, e := algebra.Reduce(api.TwoConj, list(), l)
		if e == api.OK {
			told(t, conj)(algebra.Into(none(), l))
		}
	}
}

// P9: parts, and both sides of a split, are the list again.
func TestJoinedAgain(t *testing.T) {
	s := sample.New(20)
	for _, l := range someLists(21, 150) {
		n := 1 + s.Below(len(l)+2)
		parts, e := algebra.Parts(n, l)
		var joined []api.Value
		for i, p := range parts {
			if len(p.Items) != n && (i < len(parts)-1 || len(p.Items) == 0 || len(p.Items) > n) {
				t.Errorf("Parts(%d, %s): %s", n, short(l), short(parts))
			}
			joined = append(joined, p.Items...)
		}
		checkList(t, joined, e, l)
		for q := range lastIs + 1 {
			ahead, others, e := algebra.Split(q, l)
			checkList(t, slices.Concat(ahead, others), e, l)
			for _, v := range ahead {
				if is, _ := fns.Is(q, v); !is {
					t.Errorf("Split(%d): %s is ahead", q, short(v))
				}
			}
			if len(others) > 0 {
				if is, _ := fns.Is(q, others[0]); is {
					t.Errorf("Split(%d): %s is not ahead", q, short(others[0]))
				}
			}
		}
	}
}
