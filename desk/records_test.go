package desk_test

import (
	"slices"
	"strings"
	"testing"

	"spinney/api"
	"spinney/desk"
	"spinney/heap"
	"spinney/sample"
	"spinney/text"
)

func sameRecord(a, b api.Record) bool {
	return a.Op == b.Op && slices.Equal(a.Args, b.Args) && sample.Same(a.Val, b.Val) && a.Text == b.Text
}

// 28.2 by hand: each command that is a step of the heap; values that can't be read, and the commands from print on, have none.
func TestRecords(t *testing.T) {
	for _, x := range []struct {
		line string
		want []api.Record
	}{
		{"new bimap 63", []api.Record{{Op: heap.OpNew, Args: []int{heap.HBimap, 63}}}},
		{"add 1 [2 \"a\"]", []api.Record{{Op: heap.OpAdd, Args: []int{1}, Val: list(num(2), str("a"))}}},
		{"less 2 nil", []api.Record{{Op: heap.OpLess, Args: []int{2}}}},
		{"get -1 5", []api.Record{{Op: heap.OpGet, Args: []int{-1}, Val: num(5)}}},
		{"nth 3 -4", []api.Record{{Op: heap.OpNth, Args: []int{3, -4}}}},
		{"size 2147483647", []api.Record{{Op: heap.OpSize, Args: []int{2147483647}}}},
		{"pop -2147483647", []api.Record{{Op: heap.OpPop, Args: []int{-2147483647}}}},
		{"join 1 2", []api.Record{{Op: heap.OpJoin, Args: []int{1, 2}}}},
		{"begin 4", []api.Record{{Op: heap.OpBegin, Args: []int{4}}}},
		{"push 4 #{2 1}", []api.Record{{Op: heap.OpPush, Args: []int{4}, Val: sample.Set(num(1), num(2))}}},
		{"seal 4", []api.Record{{Op: heap.OpSeal, Args: []int{4}}}},
		{"seq 4", []api.Record{{Op: heap.OpSeq, Args: []int{4}}}},
		{"iter 99 {2 1}", []api.Record{{Op: heap.OpIter, Args: []int{99}, Val: sample.Map(num(2), num(1))}}},
		{"map 1 2", []api.Record{{Op: heap.OpMap, Args: []int{1, 2}}}},
		{"keep 3 4", []api.Record{{Op: heap.OpKeep, Args: []int{3, 4}}}},
		{"take 5 6 7", []api.Record{{Op: heap.OpTake, Args: []int{5, 6, 7}}}},
		{"same 1 2", []api.Record{{Op: heap.OpSame, Args: []int{1, 2}}}},
		{"hash 8", []api.Record{{Op: heap.OpHash, Args: []int{8}}}},
		{"tell 9", []api.Record{{Op: heap.OpTell, Args: []int{9}}}},
		{"print 1", nil}, {"code 0 1", nil}, {"sort 0 [1]", nil}, {"fold 0 [0 [1]]", nil}, {"at [1 []]", nil}, {"put [1 [] 2]", nil}, {"print [", nil},
		{"add 0 [", nil}, {"less 0", nil}, {"get 0 ", nil}, {"push 0 1 2", nil}, {"iter 0 \xff", nil},
		{"", nil}, {"; so", nil},
		{"new vec 0\nprint 1\nadd 0 [\nadd 0 2\n; so\n\ntell 1", []api.Record{{Op: heap.OpNew, Args: []int{heap.HVec, 0}}, {Op: heap.OpAdd, Args: []int{0}, Val: num(2)}, {Op: heap.OpTell, Args: []int{1}}}},
	} {
		got, at, e := desk.Records(x.line)
		if !slices.EqualFunc(got, x.want, sameRecord) || at != 0 || e != api.OK {
			t.Errorf("Records(%q): %v, %d, %v, want %v", x.line, got, at, e, x.want)
		}
	}
	for n, kind := range kinds() {
		if n == 0 {
			continue
		}
		if got, _, _ := desk.Records("new " + kind + " 7"); len(got) != 1 || !slices.Equal(got[0].Args, []int{n, 7}) {
			t.Errorf("new %s: %v", kind, got)
		}
	}
}

// 28.2: the records that a script was written from are its records.
func TestRecordsOfWritten(t *testing.T) {
	for seed := range uint64(50) {
		script, _, want := played(sample.New(seed+3000), 60)
		got, at, e := desk.Records(lines(script...))
		if !slices.EqualFunc(got, want, sameRecord) || at != 0 || e != api.OK {
			t.Fatalf("seed %d: %v, %d, %v", seed, got, at, e)
		}
	}
}

// isStep tells whether a line of a script has a record: it is a step's command, and its value can be read.
func isStep(line string) bool {
	name, rest, _ := strings.Cut(line, " ")
	op := slices.Index(names(), name)
	if op <= 0 {
		return false
	}
	if !named(op) {
		return true
	}
	_, source, _ := strings.Cut(rest, " ")
	_, e, _ := text.Read(source)
	return e == api.OK
}

// 28.4: what a heap answers to the records of a script, one by one, is what Run tells of these commands.
func TestRecordsAreWhatIsRun(t *testing.T) {
	for seed := range uint64(60) {
		script := mixed(seed + 4000)
		told := strings.Split(run(t, lines(script...)), "\n")
		records, _, _ := desk.Records(lines(script...))
		h := heap.New()
		for _, line := range script {
			if line == "" || line[0] == ';' {
				continue
			}
			now := told[0]
			told = told[1:]
			if !isStep(line) {
				continue
			}
			r := records[0]
			records = records[1:]
			if want := answered(r, h.Do(r)); now != want {
				t.Fatalf("seed %d: %q: %q, want %q", seed, line, now, want)
			}
		}
		if len(records) != 0 || len(told) != 1 {
			t.Errorf("seed %d: %d records, %d lines are left", seed, len(records), len(told))
		}
	}
}

// R3: no two lists of one answer share memory, nor do two answers; who has them may write over them.
func TestMemory(t *testing.T) {
	script := lines("new vec 0", "add 0 [1 [2 #{3 [4]}]]", "join 1 1", "push 1 {[1] [2]}", "take 1 2 3", "add 0 [1 [2 #{3 [4]}]]")
	first, _, _ := desk.Records(script)
	second, _, _ := desk.Records(script)
	var lists [][]api.Value
	args := map[*int]int{}
	for _, r := range slices.Concat(first, second) {
		lists = append(lists, r.Val.Items)
		whole := r.Args[:cap(r.Args)]
		for i := range whole {
			args[&whole[i]]++
		}
	}
	if !sample.Apart(lists...) {
		t.Errorf("values share memory")
	}
	for _, n := range args {
		if n != 1 {
			t.Errorf("Args share memory")
		}
	}
	for i := range first {
		sample.Spoil(first[i].Val.Items)
		clear(first[i].Args[:cap(first[i].Args)])
	}
	third, _, _ := desk.Records(script)
	if !slices.EqualFunc(second, third, sameRecord) || slices.EqualFunc(first, third, sameRecord) {
		t.Errorf("told otherwise: %v, then %v", second, third)
	}
}
