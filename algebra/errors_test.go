package algebra_test

import (
	"testing"

	"spinney/algebra"
	"spinney/api"
	"spinney/sample"
)

// ofLists asks all calls for a list, each with other arguments that are right, and hands on the error; beside it stand zeros.
func ofLists(t *testing.T, l []api.Value, want api.Errno) {
	t.Helper()
	for fn := range lastTwo + 1 {
		refusedReduction(t, fn, num(0), l, want)
	}
	for fn := range lastFn + 1 {
		refused(t, want)(algebra.Groups(fn, l))
	}
	refused(t, want)(algebra.Counts(l))
	refusedList(t, want)(algebra.Distinct(l))
	// R1's errors come ahead of the chapter's own, so of each kind.
	for _, v := range []api.Value{none(), sample.Bool(1), num(1), str("a"), list(), set(), dict()} {
		refused(t, want)(algebra.Into(v, l))
	}
	for _, n := range []int{1, 2, api.MaxLen} {
		refusedList(t, want)(algebra.Parts(n, l))
	}
	for q := range lastIs + 1 {
		refusedSplit(t, q, l, want)
	}
}

func refusedReduction(t *testing.T, fn int, first api.Value, l []api.Value, want api.Errno) {
	t.Helper()
	if v, n, e := algebra.Reduce(fn, first, l); !sample.Same(v, none()) || n != 0 || e != want {
		t.Errorf("Reduce(%d, %s, %s): %s, %d, %v, want %v", fn, short(first), short(l), short(v), n, e, want)
	}
	refusedList(t, want)(algebra.Steps(fn, first, l))
}

func refusedSplit(t *testing.T, q int, l []api.Value, want api.Errno) {
	t.Helper()
	if ahead, others, e := algebra.Split(q, l); len(ahead) != 0 || len(others) != 0 || e != want {
		t.Errorf("Split(%d, %s): %s, %s, %v, want %v", q, short(l), short(ahead), short(others), e, want)
	}
}

// R1: lists with a member that is not right, wherever it stands, and lists that are too long (ahead of their members).
func TestWrongLists(t *testing.T) {
	for _, w := range sample.Wrongs() {
		ofLists(t, all(w), api.ErrValue)
		// Behind a member at which TwoStop stops, the list is looked at, too; and what is no pair does not come first.
		ofLists(t, all(num(200), list(), w), api.ErrValue)
	}
	long := sample.Numbers(api.MaxLen + 1)
	ofLists(t, long, api.ErrLong)
	long[0] = sample.Bool(2)
	ofLists(t, long, api.ErrLong)
	ofLists(t, long[:api.MaxLen], api.ErrValue)
}

// R1: functions and questions that are none, ahead of all else.
func TestWrongFunctions(t *testing.T) {
	wrong := sample.Bool(2)
	long := make([]api.Value, api.MaxLen+1)
	for _, l := range [][]api.Value{nil, {}, nums(1, 2), all(wrong), long} {
		for _, fn := range sample.Beyond(lastTwo) {
			refusedReduction(t, fn, num(1), l, api.ErrKind)
			refusedReduction(t, fn, wrong, l, api.ErrKind)
		}
		for _, fn := range sample.Beyond(lastFn) {
			refused(t, api.ErrKind)(algebra.Groups(fn, l))
		}
		for _, q := range sample.Beyond(lastIs) {
			refusedSplit(t, q, l, api.ErrKind)
		}
	}
}

// R1: a first value that is not right, ahead of the list.
func TestWrongFirst(t *testing.T) {
	long := make([]api.Value, api.MaxLen+1)
	for _, w := range sample.Wrongs() {
		for _, l := range [][]api.Value{nil, nums(1), all(sample.Bool(2)), long} {
			for fn := range lastTwo + 1 {
				refusedReduction(t, fn, w, l, api.ErrValue)
			}
			refused(t, api.ErrValue)(algebra.Into(w, l))
		}
	}
}

// 25.4: how many a part has, ahead of the list.
func TestWrongParts(t *testing.T) {
	long := make([]api.Value, api.MaxLen+1)
	for _, n := range append(sample.Beyond(api.MaxLen), 0) {
		for _, l := range [][]api.Value{nil, {}, nums(1, 2), all(sample.Bool(2)), long} {
			refusedList(t, api.ErrArg)(algebra.Parts(n, l))
		}
	}
}
