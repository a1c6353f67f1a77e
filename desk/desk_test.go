package desk_test

import (
	"strings"
	"testing"

	"spinney/api"
	"spinney/desk"
	"spinney/sample"
)

func num(n int64) api.Value             { return sample.Num(n) }
func str(s string) api.Value            { return sample.Str(s) }
func list(items ...api.Value) api.Value { return sample.List(items...) }

// lines are a script, or a transcript, of lines.
func lines(l ...string) string {
	if len(l) == 0 {
		return ""
	}
	return strings.Join(l, "\n") + "\n"
}

// tells looks whether a script tells these lines.
func tells(t *testing.T, script string, want ...string) {
	t.Helper()
	got, at, e := desk.Run(script)
	if got != lines(want...) || at != 0 || e != api.OK {
		t.Errorf("Run(%q): %q, %d, %v, want %q", script, got, at, e, lines(want...))
	}
}

// refuses looks whether both calls tell an error of a script, and a line, and nothing besides.
func refuses(t *testing.T, script string, line int, want api.Errno) {
	t.Helper()
	shown := script[:min(len(script), 200)]
	if got, at, e := desk.Run(script); got != "" || at != line || e != want {
		t.Errorf("Run(%q): %q, %d, %v, want %d, %v", shown, got, at, e, line, want)
	}
	if got, at, e := desk.Records(script); len(got) != 0 || at != line || e != want {
		t.Errorf("Records(%q): %v, %d, %v, want %d, %v", shown, got, at, e, line, want)
	}
}

// Chapter 28, its examples, and the document's example 10.
func TestExamples(t *testing.T) {
	tells(t, lines("new vec 0", "add 0 5", `add 1 "é"`, "tell 2", "tell 1", "size 2", "nth 2 7"),
		"handle 0", "handle 1", "handle 2", `[5 "é"]`, "[5]", "2", "error 5")
	tells(t, lines("new map 0", "add 0 [1 2]", "add 1 [1", "get 1 1", "get 1 2", "code 0 1"),
		"handle 0", "handle 1", "wrong 21 2", "2", "error 9", "1392991556")
	refuses(t, "news", 1, api.ErrForm)
	tells(t, "fold 0 [0 [1 2 3]]", "6 3")
	tells(t, "at [{1 [2]} [1 0]]", "2")
	tells(t, "at [1 [2]]", "none")
	tells(t, lines("new vec 0", "add 0 5", "tell 1", "tell 0"), "handle 0", "handle 1", "[5]", "[]")
}

// The document's other examples that a script can tell: 1, 2, 6, 7, 8, 9.
func TestExamplesOfTheWhole(t *testing.T) {
	tells(t, lines("print #{3 1 2}", "code 0 #{3 1 2}", "code 0 #{1 2 3}"), "#{1 2 3}", "439094965", "439094965")
	tells(t, lines("code 0 1", "code 0 []", "code 0 (1 2 3)"), "1392991556", "2277397642", "736442005")
	tells(t, lines("new vec 0", "add 0 1", "add 1 2", "begin 2", "push 3 3", "seal 3", "tell 4", "push 3 3"),
		"handle 0", "handle 1", "handle 2", "handle 3", "ok", "handle 4", "[1 2 3]", "error 7")
	tells(t, lines("iter 1 0", "map 0 1", "take 1 2 3", "take 1 2 1", "take 1 2 2", "take 1 2 0"), "handle 0", "handle 1", "error 220", "error 220", "[1 2]", "[1 2]")
	tells(t, lines("iter 1 0", "map 0 1", "take 1 2 4", "take 1 2 0"), "handle 0", "handle 1", "[1 2]", "[1 2]")
	tells(t, lines("new queue 5", "add 0 -2", "add 1 1", "add 2 0", "tell 3"), "handle 0", "handle 1", "handle 2", "handle 3", "[0 1 -2]")
	tells(t, lines(`put [nil ["a" "b"] 1]`, `at [{"a" {"b" 1}} ["a" "b"]]`), `{"a" {"b" 1}}`, "1")
}

// Each KIND, and what a new one says.
func TestKinds(t *testing.T) {
	for kind, empty := range map[string]string{"map": "{}", "set": "#{}", "vec": "[]", "sorted": "{}", "sorts": "#{}", "deque": "[]", "queue": "[]", "multi": "{}", "bimap": "{}"} {
		tells(t, lines("new "+kind+" 0", "tell 0", "size 0", "seq 0", "take 1 5 0"), "handle 0", empty, "0", "handle 1", "[]")
		tells(t, lines("new "+kind+" 64", "new "+kind+" -1", "tell 0"), "error 4", "error 4", "error 270")
	}
	tells(t, lines("new sorted 6", "new map 63", "new vec 1", "new queue 5", "new deque 1"), "error 4", "handle 0", "error 4", "handle 1", "error 4")
	// Each word says its own kind: what may be added, and popped, and of what a seq is.
	tells(t, lines("new map 32", "add 0 [2 1]", "add 1 [1 5]", "add 2 [2 3]", "tell 3", "get 3 2", "pop 3", "seq 3", "take 4 9 0", "join 3 3"),
		"handle 0", "handle 1", "handle 2", "handle 3", "{1 5 2 3}", "3", "error 271", "handle 4", "[[1 5] [2 3]]", "handle 5")
	tells(t, lines("new set 32", "add 0 2", "add 1 1", "add 2 2", "tell 3", "get 3 2", "get 3 3", "pop 3", "join 3 3"),
		"handle 0", "handle 1", "handle 2", "handle 3", "#{1 2}", "2", "error 9", "error 271", "handle 4")
	tells(t, lines("new vec 0", "add 0 2", "add 1 nil", "pop 2", "tell 3", "begin 2", "get 2 2"), "handle 0", "handle 1", "handle 2", "handle 3 nil", "[2]", "handle 4", "error 271")
	tells(t, lines("new sorted 1", "add 0 [1 5]", "add 1 [2 3]", "seq 2", "take 3 9 0", "less 2 1", "tell 4"), "handle 0", "handle 1", "handle 2", "handle 3", "[[2 3] [1 5]]", "handle 4", "{2 3}")
	tells(t, lines("new sorts 1", "add 0 1", "add 1 2", "seq 2", "take 3 9 0", "less 2 1", "tell 4"), "handle 0", "handle 1", "handle 2", "handle 3", "[2 1]", "handle 4", "#{2}")
	tells(t, lines("new deque 0", "add 0 2", "add 1 1", "pop 2", "tell 3", "begin 2"), "handle 0", "handle 1", "handle 2", "handle 3 2", "[1]", "error 271")
	tells(t, lines("new queue 0", "add 0 2", "add 1 1", "pop 2", "tell 3", "nth 2 0"), "handle 0", "handle 1", "handle 2", "handle 3 1", "[2]", "error 271")
	tells(t, lines("new multi 0", "add 0 [1 2]", "add 1 [1 3]", "tell 2", "size 2", "get 2 1", "less 2 1", "tell 3"), "handle 0", "handle 1", "handle 2", "{1 #{2 3}}", "2", "#{2 3}", "handle 3", "{}")
	tells(t, lines("new bimap 0", "add 0 [1 2]", "add 1 [3 2]", "tell 2", "join 2 2"), "handle 0", "handle 1", "handle 2", "{3 2}", "error 271")
}

// What is told of a heap's steps: a handle, a handle and an item, an item alone, a nil that is told, ok.
func TestTold(t *testing.T) {
	tells(t, lines("new vec 0", "add 0 nil", "nth 1 0", "pop 1", "begin 1", "pop 3", "pop 3", "push 3 nil", "tell 3", "size 3", "seal 3", "push 3 1", "pop 3", "tell 3", "tell 4"),
		"handle 0", "handle 1", "nil", "handle 2 nil", "handle 3", "nil", "error 6", "ok", "[nil]", "1", "handle 4", "error 7", "error 7", "error 7", "[nil]")
	tells(t, lines("new map 0", "add 0 [1 nil]", "get 1 1", "get 1 nil", "same 0 1", "same 1 1", "hash 0", "hash 1", "code 0 {1 nil}", "code 0 {}", "add 1 5", "less 1 9", "same 1 2"),
		"handle 0", "handle 1", "nil", "error 9", "false", "true", "4279838538", "1284123937", "1284123937", "4279838538", "error 1", "handle 2", "true")
	tells(t, lines("iter 5 1", "take 0 3 9", "keep 0 6", "take 1 1 9", "keep 0 8", "map 0 8", "iter 8 1", "map 9 0", "take 0 -1 0", "take 0 1 -1"),
		"handle 0", "[1 [1] [[1]]]", "handle 1", "[[1]]", "error 4", "error 4", "error 4", "error 270", "error 1", "error 1")
	tells(t, lines("tell 0", "tell -1", "add 0 1", "size 2147483647", "size -2147483647"), "error 270", "error 270", "error 270", "error 270", "error 270")
}

// The commands that are no steps of a heap.
func TestOtherCommands(t *testing.T) {
	tells(t, lines("print nil", `print "a\u0041\n"`, "print (1 #_ 2 3)", "print {2 1, 1 2} ; so", "print   true"), "nil", `"aA\n"`, "[1 3]", "{1 2 2 1}", "true")
	tells(t, lines("code 0 nil", "code 0 true", "code 32 1", "code 1 1", "code 4 2", "code 33 2", "code 63 1", "code 64 1", "code -1 1"),
		"0", "1231", "0", "0", "4", "2147483648", "1392991556", "error 4", "error 4")
	tells(t, lines("sort 0 [3 1 2 1]", "sort 1 #{1 2 3}", "sort 0 {1 9 2 8}", "sort 5 [1 -1 0]", "sort 4 [\"aa\" \"b\"]", "sort 6 []", "sort -1 []", "sort 0 []", "sort 0 #{}", "sort 0 {}"),
		"[1 1 2 3]", "[3 2 1]", "[1 2 8 9]", "[0 -1 1]", `["b" "aa"]`, "error 4", "error 4", "[]", "[]", "[]")
	tells(t, lines("fold 0 [0 []]", "fold 6 [0 [50 60 70]]", "fold 3 [nil [1 2]]", "fold 4 [7 (1 2)]", "fold 7 [nil [1 2 3]]", "fold 8 [0 []]", "fold -1 [0 []]"),
		"0 0", "110 2", "[1 2] 2", "7 2", "3 3", "error 4", "error 4")
	tells(t, lines("at [5 []]", "at [[1 2] [1]]", "at [[1 2] [2]]", "at [#{1} [1]]", "at [{nil nil} [nil]]", "at [nil [nil]]", "at [{1 2} [1 1]]"),
		"5", "2", "none", "1", "nil", "none", "none")
	tells(t, lines("put [1 [] 2]", "put [[1] [1] 2]", "put [[1] [3] 2]", "put [5 [1] 2]", "put [#{1} [1] 2]", "put [{1 2} [1] {}]", "put [nil [1 2] nil]"),
		"2", "[1 2]", "error 260", "error 260", "error 260", "{1 {}}", "{1 {2 nil}}")
}

// Values that are not as the row says: error 1, whatever the number is.
func TestValuesThatAreNotAsTheRowSays(t *testing.T) {
	for _, v := range []string{"nil", "true", "5", `"ab"`} {
		for _, n := range []string{"0", "5", "6", "-1"} {
			tells(t, "sort "+n+" "+v, "error 1")
		}
	}
	for _, v := range []string{"nil", "true", "5", `"ab"`, "[]", "[1]", "[[] []  []]", "[1 2]", "[[] nil]", "[[] #{}]", "[[] {}]", `[[] ""]`, "#{1 []}", "{1 []}", "{}", "[[1 []]]"} {
		tells(t, lines("at "+v), "error 1")
		for _, n := range []string{"0", "7", "8", "-1"} {
			tells(t, "fold "+n+" "+v, "error 1")
		}
	}
	for _, v := range []string{"nil", "true", "5", `"ab"`, "[]", "[1]", "[1 []]", "[1 [] 2 3]", "[1 2 3]", "[1 #{} 3]", "[1 {} 3]", "[1 nil 3]", `[1 "" 3]`, "#{1 2 []}", "{1 []}", "[[] 2 []]"} {
		tells(t, lines("put "+v), "error 1")
	}
}

// Paths of sort, fold, at and put at their limits.
func TestLimitsOfOtherCommands(t *testing.T) {
	path := func(n int) string { return "[" + strings.Repeat("0 ", n) + "]" }
	tells(t, lines("at [nil "+path(16)+"]", "at [nil "+path(17)+"]", "put [nil "+path(17)+" 1]"), "none", "error 2", "error 2")
	// A map at the end of 15 steps is 15 deep: beside 15 lists around a number 30.
	tells(t, lines("put [nil "+path(16)+" []]"), strings.Repeat("{0 ", 16)+"[]"+strings.Repeat("}", 16))
	tells(t, lines("put [nil "+path(16)+" [1]]"), "error 2")
	wide := "[" + strings.Repeat("1 ", 1000) + "]"
	tells(t, lines("put [nil [1] "+wide+"]", "fold 3 ["+wide+" [1]]"), "{1 ["+strings.TrimSuffix(strings.Repeat("1 ", 1000), " ")+"]}", "["+strings.Repeat("1 ", 1000)+"1] 1")
	ones := "[" + strings.TrimSuffix(strings.Repeat("1 ", 1023), " ") + "]"
	tells(t, lines("sort 0 "+ones, "sort 0 "+"["+ones[1:len(ones)-1]+" 1]"), ones, "wrong 28 2047")
}
