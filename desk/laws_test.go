package desk_test

import (
	"strings"
	"testing"

	"spinney/api"
	"spinney/desk"
	"spinney/sample"
)

// mixed is a script of steps, of commands that are none, and of values that can't be read.
func mixed(seed uint64) []string {
	s := sample.New(seed)
	script, _, _ := played(s, 40)
	others := []string{"print [1", "print 5", "code 0 1", "sort 1 [1 2]", "sort 0 1", "fold 0 [0 [1 2]]", "at [1 [2]]", "put [nil [1] 2]", "add 0 [", "push 0 ]", "iter 1 #{1 1}", "get 0", "tell 99", "print \xff", "put 5"}
	var out []string
	for _, line := range script {
		out = append(out, line)
		if s.Below(3) == 0 {
			out = append(out, others[s.Below(len(others))])
		}
	}
	return out
}

// run is what a script tells that has no fault.
func run(t *testing.T, script string) string {
	t.Helper()
	told, at, e := desk.Run(script)
	if at != 0 || e != api.OK {
		t.Fatalf("Run(%q): %d, %v", script, at, e)
	}
	return told
}

// 28.3: a script tells the same each time; what its beginning tells is a beginning of what it tells, and each command tells one line.
func TestBeginnings(t *testing.T) {
	for seed := range uint64(20) {
		script := mixed(seed)
		whole := run(t, lines(script...))
		if run(t, lines(script...)) != whole || run(t, strings.TrimSuffix(lines(script...), "\n")) != whole {
			t.Errorf("seed %d: told otherwise again", seed)
		}
		commands := 0
		for n := range len(script) + 1 {
			part := run(t, lines(script[:n]...))
			if !strings.HasPrefix(whole, part) || strings.Count(part, "\n") != commands {
				t.Fatalf("seed %d: the first %d lines tell %q, all %q", seed, n, part, whole)
			}
			if n < len(script) && script[n] != "" && script[n][0] != ';' {
				commands++
			}
		}
	}
}

// 28.3: a beginning of a script whose transcript is full tells a beginning, too.
func TestBeginningsOfAFullTranscript(t *testing.T) {
	script := append(filling(t, desk.MaxTranscript), "print 1", "print 2", "tell 10")
	whole := run(t, lines(script...))
	for n := len(script) - 5; n <= len(script); n++ {
		if !strings.HasPrefix(whole, run(t, lines(script[:n]...))) {
			t.Errorf("the first %d lines", n)
		}
	}
}

// 28.3: notes change nothing, wherever they stand.
func TestNotes(t *testing.T) {
	for seed := range uint64(20) {
		script := mixed(seed + 1000)
		var without, with []string
		for _, line := range script {
			if line != "" && line[0] != ';' {
				without = append(without, line)
			}
			with = append(with, "; note", line, "", ";"+line, ";\xff")
		}
		want := run(t, lines(script...))
		if run(t, lines(without...)) != want || run(t, lines(with...)) != want {
			t.Errorf("seed %d", seed)
		}
	}
}

// P11: no command, however wrong, ends a script, or changes a handle that it does not name: with commands among others that are refused, these tell what they told.
func TestRefusedCommandsChangeNothing(t *testing.T) {
	wrongs := []string{"add 0 [", "add 99 1", "add -1 1", "nth 0 -1", "pop 99", "tell 99", "join 0 99", "seal 99", "push 99 1", "take 99 1 1", "iter 99 1", "new map 64", "new vec 1", "code 64 1", "sort 0 1", "fold 9 [0 []]", "at 1", "put [1 [1] 1]", "print", "get 99 1", "keep 99 0", "same 99 0", "hash 99"}
	for seed := range uint64(20) {
		script, told, _ := played(sample.New(seed+2000), 40)
		var more, want []string
		i := 0
		for _, line := range script {
			more = append(more, line)
			if line == "" || line[0] == ';' {
				continue
			}
			want = append(want, told[i])
			more = append(more, wrongs[(i+int(seed))%len(wrongs)])
			i++
		}
		got := strings.Split(strings.TrimSuffix(run(t, lines(more...)), "\n"), "\n")
		for k := range want {
			if got[2*k] != want[k] || !strings.HasPrefix(got[2*k+1], "error ") && !strings.HasPrefix(got[2*k+1], "wrong ") {
				t.Fatalf("seed %d: command %d: %q, %q, want %q", seed, k, got[2*k], got[2*k+1], want[k])
			}
		}
		if len(got) != 2*len(want) {
			t.Errorf("seed %d: %d lines", seed, len(got))
		}
	}
}

// P1: whatever a script's bytes are, both calls end, and tell what the chapter lets them tell.
func TestAnyBytes(t *testing.T) {
	pieces := []string{"new", "add", "less", "get", "push", "nth", "pop", "take", "print", "sort", "fold", "at", "put", "vec", "map", " ", " ", " ", " ", "\n", "\n", "\n", "0", "1", "2", "-1", "-0", "99", "[", "]", "{1 2}", "#{", "[1 2]", "[0 [1]]", "nil", "\"", ";", "\xff", "\r", "\x00", "é"}
	found := map[api.Errno]int{}
	for seed := range uint64(20000) {
		s := sample.New(seed)
		var script string
		for range s.Below(12) {
			script += pieces[s.Below(len(pieces))]
		}
		told, at, e := desk.Run(script)
		records, alsoAt, also := desk.Records(script)
		found[e]++
		count := strings.Count(script, "\n") + 1
		switch {
		case at != alsoAt || e != also:
			t.Errorf("%q: %d, %v, of Records %d, %v", script, at, e, alsoAt, also)
		case e == api.ErrForm && (told != "" || len(records) != 0 || at < 1 || at > count):
			t.Errorf("%q: %q, %d, %v", script, told, at, records)
		case e == api.OK && (at != 0 || strings.Count(told, "\n") > count || len(records) > strings.Count(told, "\n")):
			t.Errorf("%q: %q, %d, %v", script, told, at, records)
		case e != api.OK && e != api.ErrForm:
			t.Errorf("%q: %v", script, e)
		}
	}
	if found[api.OK] < 500 || found[api.ErrForm] < 500 {
		t.Errorf("too few of one kind: %v", found)
	}
}
