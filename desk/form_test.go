package desk_test

import (
	"slices"
	"strings"
	"testing"

	"spinney/api"
	"spinney/desk"
)

// bare are all commands with arguments that are right, and whether a value stands behind them.
func bare() map[string]bool {
	return map[string]bool{
		"new vec 0": false, "nth 0 0": false, "size 0": false, "pop 0": false, "join 0 0": false, "begin 0": false, "seal 0": false, "seq 0": false,
		"same 0 0": false, "hash 0": false, "tell 0": false, "map 0 0": false, "keep 0 0": false, "take 0 0 0": false,
		"add 0": true, "less 0": true, "get 0": true, "push 0": true, "iter 0": true, "print": true, "code 0": true, "sort 0": true, "fold 0": true, "at": true, "put": true,
	}
}

// Each command with as many arguments as its row says; with fewer, with more, with something behind.
func TestArguments(t *testing.T) {
	if len(bare()) != 25 {
		t.Fatalf("%d commands", len(bare()))
	}
	for c, valued := range bare() {
		if got, at, e := desk.Run(c); strings.Count(got, "\n") != 1 || at != 0 || e != api.OK {
			t.Errorf("Run(%q): %q, %d, %v", c, got, at, e)
		}
		words := strings.Split(c, " ")
		for n := 1; n < len(words); n++ {
			fewer := strings.Join(words[:n], " ")
			refuses(t, fewer, 1, api.ErrForm)
			refuses(t, fewer+" ", 1, api.ErrForm)
			refuses(t, " "+fewer+"   ", 1, api.ErrForm)
			refuses(t, fewer+"\t"+strings.Join(words[n:], " "), 1, api.ErrForm)
		}
		if valued {
			// What is behind is the value, if there is something or not.
			tells(t, c, "wrong 21 0")
			tells(t, c+" ", "wrong 21 0")
			tells(t, c+"   ", "wrong 21 2")
			continue
		}
		for _, more := range []string{" 0", "  0", " 0 ", " ;", "  ;", ";", " ; so", " nil", "\r", " \r", "\t", " \t", "\t ", "\x00", "\u00a0"} {
			refuses(t, c+more, 1, api.ErrForm)
		}
	}
}

// spaced are all lines of these words with one of the gaps ahead of each.
func spaced(words, gaps []string) []string {
	out := []string{""}
	for i, w := range words {
		var longer []string
		for _, line := range out {
			for _, gap := range gaps {
				if gap == "" && i > 0 {
					gap = " "
				}
				longer = append(longer, line+gap+w)
			}
		}
		out = longer
	}
	return out
}

// A line's words stand between blanks, however many there are; behind the last argument of a command without a value blanks are nothing.
func TestBlanks(t *testing.T) {
	for c, valued := range bare() {
		want := run(t, c)
		wanted, _, _ := desk.Records(c)
		ends := []string{"", " ", "  ", "     "}
		if valued {
			ends = []string{"", " "}
		}
		for _, line := range spaced(strings.Split(c, " "), []string{"", " ", "  ", "   "}) {
			for _, end := range ends {
				got, at, e := desk.Run(line + end)
				records, alsoAt, also := desk.Records(line + end)
				if got != want || at != 0 || e != api.OK || !slices.EqualFunc(records, wanted, sameRecord) || alsoAt != 0 || also != api.OK {
					t.Errorf("%q: %q, %d, %v, %v, %d, %v", line+end, got, at, e, records, alsoAt, also)
				}
			}
		}
	}
	tells(t, lines("new  vec 0", "add  0 5", " add 1  6", "tell 2 "), "handle 0", "handle 1", "handle 2", "[5 6]")
	tells(t, lines("new sorts 0", "new map 2", "new map 2", "new deque 0", "new vec 2 "), "handle 0", "handle 1", "handle 2", "handle 3", "error 4")
	tells(t, "seq 8"+strings.Repeat(" ", 5000), "error 270")
}

// Blanks ahead of a command with a value, and between its words, do not move the places of what is wrong with its value; those behind do, but one.
func TestBlanksAheadOfAValue(t *testing.T) {
	tells(t, lines(" print 5", "  print  5", "print   [", "   print [", "   print   ["), "5", "5", "wrong 21 3", "wrong 21 1", "wrong 21 3")
	tells(t, lines("add 0   [", "add   0 [", "   add 0 [", "  code   0 1", " at [1 [2]]"), "wrong 21 3", "wrong 21 1", "wrong 21 1", "1392991556", "none")
}

// Names that are none.
func TestNames(t *testing.T) {
	for c, valued := range bare() {
		name, rest, _ := strings.Cut(c, " ")
		if valued {
			rest += " 1"
		}
		for _, other := range []string{"\t" + name, " \t" + name, "\u00a0" + name, " ; " + name, " ;" + name, name + "s", name + "\t", name + ",", strings.ToUpper(name), name[:len(name)-1], name + ";", "#" + name} {
			refuses(t, other+" "+rest, 1, api.ErrForm)
		}
	}
	for _, line := range []string{" ", "  ", "\t", "\r", " ; so", "\x00", "\xff", "é", "5", "nil", "[1]", "handle 0", "ok", "HMap", "op 1", "drop 0", "full", "none"} {
		refuses(t, line, 1, api.ErrForm)
	}
}

// KINDs that are none.
func TestKindsThatAreNone(t *testing.T) {
	for _, kind := range []string{"", "Map", "maps", "trans", "seq", "1", "3", "HVec", "vector", "list", "sort", "map;", "vec\t"} {
		refuses(t, "new "+kind+" 0", 1, api.ErrForm)
		refuses(t, "new "+kind, 1, api.ErrForm)
	}
	refuses(t, "new 0 vec", 1, api.ErrForm)
	refuses(t, "new vec vec", 1, api.ErrForm)
}

// Numbers at both ends of their range and one beyond; numbers that are not as R5 has them.
func TestNumbers(t *testing.T) {
	for _, n := range []string{"0", "1", "-1", "9", "10", "2147483647", "-2147483647", "1000000000"} {
		tells(t, "tell "+n, "error 270")
		tells(t, lines("new vec 0", "nth 0 "+n), "handle 0", "error 5")
	}
	for _, n := range []string{
		"2147483648", "-2147483648", "4294967296", "-4294967296", "9223372036854775807", "9223372036854775808", "-9223372036854775808", "18446744073709551616", strings.Repeat("1", 400),
		"-0", "+0", "+1", "00", "01", "-01", "007", "--1", "-", "+", "1.0", "1e3", "0x1", "1_000", "1,", ",1", "a", "1a", "é", "\xff", "１", "1\t", "\t1", "0\r", "nil", "[1]", ";",
	} {
		refuses(t, "tell "+n, 1, api.ErrForm)
		refuses(t, "new vec "+n, 1, api.ErrForm)
		refuses(t, "nth 0 "+n, 1, api.ErrForm)
		refuses(t, "add "+n+" 1", 1, api.ErrForm)
		refuses(t, "take 0 "+n+" 0", 1, api.ErrForm)
		refuses(t, "code "+n+" 1", 1, api.ErrForm)
	}
}

// The number of the first line that is neither a note nor a command; notes count, and nothing is done.
func TestWhichLine(t *testing.T) {
	refuses(t, lines("print 1", "news"), 2, api.ErrForm)
	refuses(t, lines("print 1", "", "; so", "news", "other"), 4, api.ErrForm)
	refuses(t, lines("", "", "", " "), 4, api.ErrForm)
	refuses(t, lines("size 01", "size 02"), 1, api.ErrForm)
	refuses(t, lines("print [", "print ]", "tell -0"), 3, api.ErrForm)
	refuses(t, "\n\nx", 3, api.ErrForm)
	refuses(t, lines("print 1\r", "\r"), 2, api.ErrForm)
}

// Values that can't be read: what is wrong with them, and where; nothing else is done, whatever the arguments are.
func TestValuesThatCanNotBeRead(t *testing.T) {
	for _, x := range []struct{ value, want string }{
		{"[1", "wrong 21 2"}, {" [1", "wrong 21 3"}, {"{1 [a]}", "wrong 22 4"}, {"{1}", "wrong 25 2"}, {"#{1 1}", "wrong 26 0"}, {"007", "wrong 23 0"}, {`"\x"`, "wrong 24 1"}, {"1 2", "wrong 29 2"},
		{"9223372036854775808", "wrong 23 0"}, {"\xff", "wrong 20 0"}, {"[1 \xff", "wrong 20 3"}, {"; so", "wrong 21 4"}, {"#_ 1", "wrong 21 4"}, {")", "wrong 22 0"}, {`"` + strings.Repeat("a", 257) + `"`, "wrong 2 0"},
		{strings.Repeat("[", 18), "wrong 27 17"}, {"a", "wrong 22 0"}, {`"`, "wrong 21 1"}, {"nil\x00", "wrong 22 0"},
	} {
		for c, valued := range bare() {
			if valued {
				tells(t, c+" "+x.value, x.want)
			}
		}
		tells(t, lines("new vec 0", "begin 0", "push 1 1", "push 1 "+x.value, "add 0 "+x.value, "iter 99 "+x.value, "code 99 "+x.value, "tell 1", "tell 2"),
			"handle 0", "handle 1", "ok", x.want, x.want, x.want, x.want, "[1]", "error 270")
	}
}

// A value is all of the line behind one blank: more blanks, commas and remarks are the value's own.
func TestValuesAsTheyStand(t *testing.T) {
	tells(t, lines("new vec 0", "add 0  5 ", "add 1 ,5,", "add 2 5;so", "add 3 (5 , 6)", "add 4 #_ 1 5", "add 5 5\r", "add 6 \t5", "tell 7"),
		"handle 0", "handle 1", "handle 2", "handle 3", "handle 4", "handle 5", "handle 6", "handle 7", "[5 5 5 [5 6] 5 5 5]")
	tells(t, `print "a;b c"`, `"a;b c"`)
	tells(t, "print\x20\x20\x20 nil", "nil")
	// A text may not go over the end of a line.
	tells(t, "print \"a\n;b\"", "wrong 21 2")
}
