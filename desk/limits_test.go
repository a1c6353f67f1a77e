package desk_test

import (
	"slices"
	"strings"
	"testing"

	"spinney/api"
	"spinney/desk"
)

// Scripts of no lines, of empty lines, of notes alone; with and without a last byte 10.
func TestNoCommands(t *testing.T) {
	for _, script := range []string{"", "\n", "\n\n\n", ";", "; so\n", ";\n;", ";new vec 0", "\n;\n", "; \xff\xfe\n", ";\r", "; [\n\n; ]"} {
		tells(t, script)
		if l, at, e := desk.Records(script); len(l) != 0 || at != 0 || e != api.OK {
			t.Errorf("Records(%q): %v, %d, %v", script, l, at, e)
		}
	}
	tells(t, "print 1", "1")
	tells(t, "print 1\n", "1")
	tells(t, "print 1\n\n", "1")
	tells(t, "\nprint 1", "1")
	tells(t, "print 1\nprint 2", "1", "2")
	tells(t, "print 1\n\n;\nprint 2\n", "1", "2")
}

// MaxLines lines and one more, notes and empty ones counted; the last one may do without its byte 10.
func TestLines(t *testing.T) {
	for _, line := range []string{"", ";", "print 1"} {
		script := strings.Repeat(line+"\n", desk.MaxLines)
		told := slices.Repeat([]string{"1"}, strings.Count(script, "print"))
		tells(t, script, told...)
		tells(t, strings.TrimSuffix(script, "\n"), told...)
		refuses(t, script+"\n", 0, api.ErrLong)
		refuses(t, script+";", 0, api.ErrLong)
		refuses(t, script+"news", 0, api.ErrLong)
		refuses(t, "news\n"+script, 0, api.ErrLong)
	}
	refuses(t, strings.Repeat("\n", desk.MaxLines-1)+"news", desk.MaxLines, api.ErrForm)
	refuses(t, strings.Repeat("\n", api.MaxSource), 0, api.ErrLong)
	if desk.MaxLines != 4000 || desk.MaxTranscript != 1<<20 {
		t.Errorf("limits: %d, %d", desk.MaxLines, desk.MaxTranscript)
	}
}

// MaxSource bytes and one more.
func TestBytes(t *testing.T) {
	script := "print 1\n;" + strings.Repeat("a", api.MaxSource-9)
	tells(t, script, "1")
	refuses(t, script+"a", 0, api.ErrLong)
	refuses(t, script+"\n", 0, api.ErrLong)
	refuses(t, "n"+script, 0, api.ErrLong)
	refuses(t, strings.Repeat("x", api.MaxSource), 1, api.ErrForm)
	refuses(t, strings.Repeat("x", api.MaxSource+1), 0, api.ErrLong)
	refuses(t, strings.Repeat("x", 1<<20), 0, api.ErrLong)
	// One value may take all of the script.
	long := "print [" + strings.Repeat(" ", api.MaxSource-8) + "]"
	tells(t, long, "[]")
}

// big makes a vector of 512 texts of 200 bytes: its handle is 10, and what it says has 103937 bytes.
func big() []string {
	script := []string{"new vec 0", `add 0 "` + strings.Repeat("a", 200) + `"`}
	for n := 1; n < 10; n++ {
		both := string(rune('0' + n))
		script = append(script, "join "+both+" "+both)
	}
	return script
}

// filling is a script that tells just so many bytes, behind those of big.
func filling(t *testing.T, bytes int) []string {
	t.Helper()
	script := big()
	told, _, e := desk.Run(lines(script...))
	if e != api.OK {
		t.Fatal(e)
	}
	left := bytes - len(told)
	for ; left > 103938+300; left -= 103938 {
		script = append(script, "tell 10")
	}
	for ; left > 300; left -= 203 {
		script = append(script, `print "`+strings.Repeat("b", 200)+`"`)
	}
	for ; left > 100; left -= 53 {
		script = append(script, `print "`+strings.Repeat("c", 50)+`"`)
	}
	return append(script, `print "`+strings.Repeat("d", left-3)+`"`)
}

// A transcript of MaxTranscript bytes is not full, one of a byte more is: then that is told, and nothing more.
func TestFullTranscript(t *testing.T) {
	just := filling(t, desk.MaxTranscript)
	told, at, e := desk.Run(lines(just...))
	if len(told) != desk.MaxTranscript || at != 0 || e != api.OK || strings.Contains(told, "full") {
		t.Fatalf("%d bytes, %d, %v", len(told), at, e)
	}
	more, at, e := desk.Run(lines(append(just, "print 1", "print 2")...))
	if more != told+"1\nfull\n" || at != 0 || e != api.OK {
		t.Errorf("behind it: %q, %d, %v", more[len(told):], at, e)
	}
	noted, _, _ := desk.Run(lines(append(just, "; so", "")...))
	if noted != told {
		t.Errorf("notes behind it: %q", noted[len(told):])
	}

	over := filling(t, desk.MaxTranscript+1)
	want := strings.TrimSuffix(told, "d\"\n") + "dd\"\nfull\n"
	for _, behind := range [][]string{nil, {"print 1"}, {"tell 10", "tell 10", "new vec 0"}, {"print ["}} {
		if got, at, e := desk.Run(lines(slices.Concat(over, behind)...)); got != want || at != 0 || e != api.OK {
			t.Errorf("one byte more, then %v: %d bytes, %d, %v", behind, len(got), at, e)
		}
	}
	refuses(t, lines(append(over, "news")...), len(over)+1, api.ErrForm)
}

// A line of any length is told whole.
func TestLongLines(t *testing.T) {
	script := append(big(), slices.Repeat([]string{"tell 10"}, 30)...)
	told, _, _ := desk.Run(lines(script...))
	if len(told) <= desk.MaxTranscript || len(told) > desk.MaxTranscript+103938+5 || !strings.HasSuffix(told, "a\"]\nfull\n") {
		t.Errorf("%d bytes", len(told))
	}
	// Behind full no record is left out: which commands have one hangs on their names and values alone.
	if l, _, e := desk.Records(lines(script...)); len(l) != len(script) || e != api.OK {
		t.Errorf("%d records, %v", len(l), e)
	}
}
