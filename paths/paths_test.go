package paths_test

import (
	"fmt"
	"slices"
	"testing"

	"spinney/api"
	"spinney/paths"
	"spinney/sample"
	"spinney/text"
)

const lastFn = api.FnHalf

func none() api.Value                   { return api.Value{} }
func num(n int64) api.Value             { return sample.Num(n) }
func str(s string) api.Value            { return sample.Str(s) }
func list(items ...api.Value) api.Value { return sample.List(items...) }
func set(items ...api.Value) api.Value  { return sample.Set(items...) }
func dict(items ...api.Value) api.Value { return sample.Map(items...) }
func all(l ...api.Value) []api.Value    { return l }

func deep(n int) api.Value { return sample.Nested(n, num(1)) }

// zeros is a path of so many steps, all of them 0.
func zeros(n int) []api.Value { return slices.Repeat(all(num(0)), n) }

// read is a value as a test writes it; told and paths too are written so.
func read(s string) api.Value {
	v, e, at := text.Read(s)
	if e != api.OK {
		panic(fmt.Sprintf("%s: %v at %d", s, e, at))
	}
	return v
}

// steps is a path, written as a list.
func steps(s string) []api.Value { return read(s).Items }

// shown is what a failing test shows of something that may be long.
func shown(v api.Value) string {
	s, e := text.Print(v)
	if e != api.OK {
		s = fmt.Sprint(v)
	}
	return s[:min(len(s), 120)]
}

func shownPath(path []api.Value) string { return shown(list(path...)) }

// told holds a value that a call told, and its error, against what is wanted.
func told(t *testing.T, want api.Value) func(api.Value, api.Errno) {
	t.Helper()
	return func(got api.Value, e api.Errno) {
		t.Helper()
		if !sample.Same(got, want) || e != api.OK {
			t.Errorf("%s, %v, want %s", shown(got), e, shown(want))
		}
	}
}

// refused wants an error, and a zero value beside it.
func refused(t *testing.T, want api.Errno) func(api.Value, api.Errno) {
	t.Helper()
	return func(got api.Value, e api.Errno) {
		t.Helper()
		if !sample.Same(got, none()) || e != want {
			t.Errorf("%s, %v, want %v", shown(got), e, want)
		}
	}
}

func checkGet(t *testing.T, v api.Value, path []api.Value, want api.Value) {
	t.Helper()
	if got, ok, e := paths.Get(v, path); !sample.Same(got, want) || !ok || e != api.OK {
		t.Errorf("Get(%s, %s): %s, %v, %v, want %s", shown(v), shownPath(path), shown(got), ok, e, shown(want))
	}
}

func checkNothing(t *testing.T, v api.Value, path []api.Value, want api.Errno) {
	t.Helper()
	if got, ok, e := paths.Get(v, path); !sample.Same(got, none()) || ok || e != want {
		t.Errorf("Get(%s, %s): %s, %v, %v, want %v", shown(v), shownPath(path), shown(got), ok, e, want)
	}
}

// checkLeaves holds a value's leaves against paths, written as a list of lists.
func checkLeaves(t *testing.T, v, want api.Value) {
	t.Helper()
	got, e := paths.Leaves(v)
	same := len(got) == len(want.Items)
	for i := 0; same && i < len(got); i++ {
		same = sample.SameAll(got[i], want.Items[i].Items)
	}
	if !same || e != api.OK {
		t.Errorf("Leaves(%s): %v, %v, want %s", shown(v), got, e, shown(want))
	}
}

// some are paths, written as a list of lists.
func some(s string) [][]api.Value {
	var out [][]api.Value
	for _, path := range steps(s) {
		out = append(out, path.Items)
	}
	return out
}

// The examples of chapter 26, and the ninth one of DOC.md.
func TestExamples(t *testing.T) {
	checkGet(t, read(`{"a" [1 2]}`), steps(`["a" 1]`), num(2))
	nested, e := paths.Put(none(), steps(`["a" "b"]`), num(1))
	told(t, read(`{"a" {"b" 1}}`))(nested, e)
	checkGet(t, nested, steps(`["a" "b"]`), num(1))
	told(t, read(`[1 2]`))(paths.Put(read(`[1]`), steps(`[1]`), num(2)))
	refused(t, api.ErrPath)(paths.Put(read(`[1]`), steps(`[3]`), num(2)))
	told(t, dict())(paths.Drop(read(`{"a" 1}`), steps(`["a"]`)))
	told(t, read(`{"n" 2}`))(paths.Update(read(`{"n" 1}`), steps(`["n"]`), api.FnInc))
	checkLeaves(t, read(`{"a" [1 []]}`), read(`[["a" 0] ["a" 1]]`))
}

// 26.1: steps into maps, lists and sets.
func TestGetByHand(t *testing.T) {
	for _, c := range []struct{ v, path, want string }{
		{`nil`, `[]`, `nil`}, {`5`, `[]`, `5`}, {`{"a" 1}`, `[]`, `{"a" 1}`}, {`#{1}`, `[]`, `#{1}`}, {`[[1]]`, `[]`, `[[1]]`},
		{`{"a" [1 2]}`, `["a"]`, `[1 2]`}, {`{"a" [1 2]}`, `["a" 0]`, `1`}, {`{1 2, 3 4, 5 6}`, `[1]`, `2`}, {`{1 2, 3 4, 5 6}`, `[3]`, `4`}, {`{1 2, 3 4, 5 6}`, `[5]`, `6`}, {`{nil 5}`, `[nil]`, `5`}, {`{1 nil}`, `[1]`, `nil`}, {`{[1] 2}`, `[[1]]`, `2`}, {`{{1 2} {3 4}}`, `[{1 2} 3]`, `4`}, {`{#{} 1}`, `[#{}]`, `1`}, {`{0 "x"}`, `[0]`, `"x"`}, {`{-1 "x"}`, `[-1]`, `"x"`}, {`{true 1, false 2}`, `[false]`, `2`},
		{`[7]`, `[0]`, `7`}, {`[7 8 9]`, `[0]`, `7`}, {`[7 8 9]`, `[1]`, `8`}, {`[7 8 9]`, `[2]`, `9`}, {`[nil]`, `[0]`, `nil`}, {`[[1] [2 [3]]]`, `[1 1 0]`, `3`}, {`[{"a" 1} {"a" 2}]`, `[1 "a"]`, `2`},
		{`#{5}`, `[5]`, `5`}, {`#{1 2 3}`, `[1]`, `1`}, {`#{1 2 3}`, `[3]`, `3`}, {`#{nil}`, `[nil]`, `nil`}, {`#{[7 8]}`, `[[7 8]]`, `[7 8]`}, {`#{[7 8]}`, `[[7 8] 1]`, `8`}, {`#{{1 2}}`, `[{1 2} 1]`, `2`}, {`#{#{1}}`, `[#{1} 1]`, `1`}, {`{"s" [#{2}]}`, `["s" 0 2]`, `2`},
	} {
		checkGet(t, read(c.v), steps(c.path), read(c.want))
	}
	// R2: a path without steps may be nil or empty.
	checkGet(t, deep(16), nil, deep(16))
	checkGet(t, deep(16), []api.Value{}, deep(16))
	for n := range api.MaxDeep + 1 {
		checkGet(t, deep(16), zeros(n), deep(16-n))
	}
	checkNothing(t, deep(15), zeros(16), api.OK)
	checkNothing(t, deep(16), zeros(17), api.ErrLong)
}

// 26.1: nothing stands there: keys that are not there, places that are none, what has no parts.
func TestGetNothing(t *testing.T) {
	for _, c := range []struct{ v, path string }{
		{`{}`, `[1]`}, {`{}`, `[nil]`}, {`{1 2}`, `[2]`}, {`{1 2, 5 6}`, `[0]`}, {`{1 2, 5 6}`, `[3]`}, {`{1 2, 5 6}`, `[9]`}, {`{"a" 1}`, `["A"]`}, {`{[1] 2}`, `[1]`}, {`{"a" 1}`, `["a" "a"]`}, {`{"a" {"b" 1}}`, `["b"]`}, {`{"a" {"b" 1}}`, `["a" "c"]`}, {`{"a" nil}`, `["a" nil]`},
		{`[]`, `[0]`}, {`[]`, `[-1]`}, {`[7]`, `[1]`}, {`[7 8]`, `[-1]`}, {`[7 8]`, `[-2]`}, {`[7 8]`, `[2]`}, {`[7 8]`, `[3]`}, {`[7 8]`, `[9223372036854775807]`}, {`[7 8]`, `[-9223372036854775808]`}, {`[7 8]`, `[4294967296]`}, {`[7 8]`, `[7]`},
		{`[7 8]`, `[nil]`}, {`[7 8]`, `[false]`}, {`[7 8]`, `[true]`}, {`[7 8]`, `["0"]`}, {`[7 8]`, `[""]`}, {`[7 8]`, `[[]]`}, {`[7 8]`, `[[0]]`}, {`[7 8]`, `[#{}]`}, {`[7 8]`, `[{}]`}, {`[[7]]`, `[0 1]`}, {`[[7]]`, `[1 0]`},
		{`#{}`, `[nil]`}, {`#{5}`, `[0]`}, {`#{1 3}`, `[0]`}, {`#{1 3}`, `[2]`}, {`#{1 3}`, `[4]`}, {`#{1}`, `[1 1]`}, {`#{[7]}`, `[[7] 1]`}, {`#{[7]}`, `[7]`}, {`#{[7]}`, `[[8] 0]`},
		{`nil`, `[nil]`}, {`nil`, `[0]`}, {`true`, `[0]`}, {`5`, `[5]`}, {`0`, `[0]`}, {`"abc"`, `[0]`}, {`""`, `[""]`}, {`5`, `[0 0]`},
	} {
		checkNothing(t, read(c.v), steps(c.path), api.OK)
	}
}

// 26.2: into a VNil, into maps and lists, beyond a list's end; of a path that does not lead there ErrPath ("" here).
func TestPutByHand(t *testing.T) {
	for _, c := range []struct{ v, path, x, want string }{
		{`nil`, `[]`, `5`, `5`}, {`{1 2}`, `[]`, `nil`, `nil`}, {`#{1}`, `[]`, `[3]`, `[3]`}, {`5`, `[]`, `{}`, `{}`},
		{`nil`, `["a"]`, `1`, `{"a" 1}`}, {`nil`, `[0]`, `1`, `{0 1}`}, {`nil`, `[nil]`, `nil`, `{nil nil}`}, {`nil`, `["a" 0 [1]]`, `#{2}`, `{"a" {0 {[1] #{2}}}}`},
		{`{}`, `[1]`, `2`, `{1 2}`}, {`{}`, `[1 2 3]`, `4`, `{1 {2 {3 4}}}`}, {`{3 4, 5 6}`, `[1]`, `2`, `{1 2, 3 4, 5 6}`}, {`{1 2, 5 6}`, `[3]`, `4`, `{1 2, 3 4, 5 6}`}, {`{1 2, 3 4}`, `[5]`, `6`, `{1 2, 3 4, 5 6}`}, {`{1 2, 3 4, 5 6}`, `[3]`, `[]`, `{1 2, 3 [], 5 6}`}, {`{1 2}`, `[1]`, `2`, `{1 2}`}, {`{1 2}`, `["1"]`, `3`, `{1 2, "1" 3}`},
		{`{"a" {"b" 1}}`, `["a" "c"]`, `2`, `{"a" {"b" 1, "c" 2}}`}, {`{"a" {"b" 1}}`, `["a" "b"]`, `2`, `{"a" {"b" 2}}`}, {`{"a" {"b" 1}}`, `["a"]`, `2`, `{"a" 2}`}, {`{"a" nil}`, `["a" "b"]`, `1`, `{"a" {"b" 1}}`}, {`{"a" {"b" 1}}`, `["b" "a"]`, `1`, `{"a" {"b" 1}, "b" {"a" 1}}`},
		{`[]`, `[0]`, `5`, `[5]`}, {`[1]`, `[0]`, `5`, `[5]`}, {`[1]`, `[1]`, `5`, `[1 5]`}, {`[1 2 3]`, `[1]`, `[5]`, `[1 [5] 3]`}, {`[1 2 3]`, `[2]`, `nil`, `[1 2 nil]`}, {`[1 2 3]`, `[3]`, `4`, `[1 2 3 4]`}, {`[]`, `[0 0]`, `5`, `[{0 5}]`}, {`[[1]]`, `[0 1]`, `2`, `[[1 2]]`}, {`[[1]]`, `[1 "a"]`, `2`, `[[1] {"a" 2}]`}, {`[nil]`, `[0 5]`, `1`, `[{5 1}]`}, {`[{1 [2]}]`, `[0 1 0]`, `3`, `[{1 [3]}]`}, {`[#{1}]`, `[0]`, `2`, `[2]`},
		{`[]`, `[1]`, `5`, ``}, {`[]`, `[-1]`, `5`, ``}, {`[1]`, `[2]`, `5`, ``}, {`[1]`, `[3]`, `2`, ``}, {`[1]`, `[-1]`, `5`, ``}, {`[1]`, `[9223372036854775807]`, `5`, ``}, {`[1]`, `[-9223372036854775808]`, `5`, ``}, {`[1]`, `["0"]`, `5`, ``}, {`[1]`, `[nil]`, `5`, ``}, {`[1]`, `[true]`, `5`, ``}, {`[]`, `[nil]`, `5`, ``}, {`[]`, `[false]`, `5`, ``}, {`[]`, `[""]`, `5`, ``}, {`[]`, `[[]]`, `5`, ``}, {`[1]`, `[[0]]`, `5`, ``}, {`[[1]]`, `[0 2]`, `5`, ``}, {`[[1]]`, `[2 0]`, `5`, ``}, {`{"a" [1]}`, `["a" 2]`, `5`, ``},
		{`#{}`, `[1]`, `1`, ``}, {`#{1}`, `[1]`, `1`, ``}, {`#{1}`, `[2]`, `5`, ``}, {`#{[1]}`, `[[1] 0]`, `5`, ``}, {`{"s" #{1}}`, `["s" 1]`, `1`, ``}, {`[#{}]`, `[0 0]`, `1`, ``},
		{`5`, `[1]`, `1`, ``}, {`0`, `[0]`, `1`, ``}, {`"a"`, `[0]`, `1`, ``}, {`""`, `[0]`, `1`, ``}, {`true`, `[1]`, `1`, ``}, {`false`, `[nil]`, `1`, ``}, {`{"a" 5}`, `["a" "b"]`, `1`, ``}, {`{"a" ""}`, `["a" 0]`, `1`, ``}, {`[5]`, `[0 0]`, `1`, ``}, {`[[false]]`, `[0 0 0]`, `1`, ``},
	} {
		checkPut(t, c.v, c.path, c.x, c.want)
	}
}

func checkPut(t *testing.T, v, path, x, want string) {
	t.Helper()
	if want == "" {
		refused(t, api.ErrPath)(paths.Put(read(v), steps(path), read(x)))
		return
	}
	told(t, read(want))(paths.Put(read(v), steps(path), read(x)))
}

// 26.2: every function, where something stands and where nothing does; Put's errors.
func TestUpdateByHand(t *testing.T) {
	v := read(`{"n" 7, "t" "éa", "l" [1 2 3], "s" #{4}, "m" {5 6}, "z" nil}`)
	for path, wants := range map[string][lastFn + 1]string{
		`["n"]`:    {`7`, `8`, `-7`, `0`, `nil`, `[7]`, `2`, `3`},
		`["t"]`:    {`"éa"`, `"éa"`, `"éa"`, `2`, `"é"`, `["éa"]`, `3`, `"éa"`},
		`["l"]`:    {`[1 2 3]`, `[1 2 3]`, `[1 2 3]`, `3`, `1`, `[[1 2 3]]`, `4`, `[1 2 3]`},
		`["l" 2]`:  {`3`, `4`, `-3`, `0`, `nil`, `[3]`, `2`, `1`},
		`["s"]`:    {`#{4}`, `#{4}`, `#{4}`, `1`, `4`, `[#{4}]`, `5`, `#{4}`},
		`["m"]`:    {`{5 6}`, `{5 6}`, `{5 6}`, `1`, `[5 6]`, `[{5 6}]`, `6`, `{5 6}`},
		`["m" 5]`:  {`6`, `7`, `-6`, `0`, `nil`, `[6]`, `2`, `3`},
		`["z"]`:    {`nil`, `nil`, `nil`, `0`, `nil`, `[nil]`, `0`, `nil`},
		`["x"]`:    {`nil`, `nil`, `nil`, `0`, `nil`, `[nil]`, `0`, `nil`},
		`["z" 1]`:  {`nil`, `nil`, `nil`, `0`, `nil`, `[nil]`, `0`, `nil`},
		`["l" 3]`:  {`nil`, `nil`, `nil`, `0`, `nil`, `[nil]`, `0`, `nil`},
		`["m" -5]`: {`nil`, `nil`, `nil`, `0`, `nil`, `[nil]`, `0`, `nil`},
	} {
		for fn, want := range wants {
			put, e := paths.Put(v, steps(path), read(want))
			if e != api.OK {
				t.Fatalf("Put at %s: %v", path, e)
			}
			told(t, put)(paths.Update(v, steps(path), fn))
			checkGet(t, put, steps(path), read(want))
		}
	}
	for fn := range lastFn + 1 {
		for _, path := range []string{`["s" 4]`, `["s" 5]`, `["l" 4]`, `["l" -1]`, `["l" "x"]`, `["n" 0]`, `["t" 0]`, `["l" 0 0]`} {
			refused(t, api.ErrPath)(paths.Update(v, steps(path), fn))
		}
	}
	told(t, num(6))(paths.Update(num(5), nil, api.FnInc))
	told(t, num(6))(paths.Update(num(5), []api.Value{}, api.FnInc))
	told(t, num(5))(paths.Update(set(num(1)), nil, api.FnKind))
	told(t, list(none()))(paths.Update(none(), nil, api.FnWrap))
	told(t, read(`{1 {2 0}}`))(paths.Update(none(), steps(`[1 2]`), api.FnSize))
}

// 26.3: maps' keys, lists' first, middle and last items, sets' members; nothing; what lies within a set's member ("" is ErrPath).
func TestDropByHand(t *testing.T) {
	for _, c := range []struct{ v, path, want string }{
		{`{1 2}`, `[1]`, `{}`}, {`{1 2, 3 4, 5 6}`, `[1]`, `{3 4, 5 6}`}, {`{1 2, 3 4, 5 6}`, `[3]`, `{1 2, 5 6}`}, {`{1 2, 3 4, 5 6}`, `[5]`, `{1 2, 3 4}`}, {`{1 nil}`, `[1]`, `{}`}, {`{nil 1}`, `[nil]`, `{}`}, {`{"a" {"b" 1, "c" 2}}`, `["a" "b"]`, `{"a" {"c" 2}}`}, {`{"a" {"b" 1}}`, `["a" "b"]`, `{"a" {}}`}, {`{"a" {"b" 1}}`, `["a"]`, `{}`},
		{`[7]`, `[0]`, `[]`}, {`[7 8 9]`, `[0]`, `[8 9]`}, {`[7 8 9]`, `[1]`, `[7 9]`}, {`[7 8 9]`, `[2]`, `[7 8]`}, {`[nil]`, `[0]`, `[]`}, {`[[1 2] [3 4]]`, `[1 0]`, `[[1 2] [4]]`}, {`[{1 [2]} 3]`, `[0 1 0]`, `[{1 []} 3]`}, {`[7 7 7]`, `[1]`, `[7 7]`},
		{`#{1}`, `[1]`, `#{}`}, {`#{1 2 3}`, `[1]`, `#{2 3}`}, {`#{1 2 3}`, `[2]`, `#{1 3}`}, {`#{1 2 3}`, `[3]`, `#{1 2}`}, {`#{[1]}`, `[[1]]`, `#{}`}, {`{"s" #{1 [2]}}`, `["s" [2]]`, `{"s" #{1}}`}, {`[#{nil}]`, `[0 nil]`, `[#{}]`},
		{`#{[1]}`, `[[1] 0]`, ``}, {`#{{1 2}}`, `[{1 2} 1]`, ``}, {`#{#{1}}`, `[#{1} 1]`, ``}, {`{"s" #{[1]}}`, `["s" [1] 0]`, ``}, {`#{[[1]]}`, `[[[1]] 0 0]`, ``}, {`[#{{1 {2 3}}}]`, `[0 {1 {2 3}} 1 2]`, ``}, {`#{[#{1}]}`, `[[#{1}] 0 1]`, ``},
		{`nil`, `[]`, ``}, {`{1 2}`, `[]`, ``}, {`[1]`, `[]`, ``}, {`#{1}`, `[]`, ``}, {`5`, `[]`, ``},
		// Nothing stands there: the value itself, in a set and within its members, too.
		{`nil`, `[1]`, `nil`}, {`5`, `[5]`, `5`}, {`"ab"`, `[0]`, `"ab"`}, {`{}`, `[1]`, `{}`}, {`{1 2}`, `[2]`, `{1 2}`}, {`{1 2}`, `[1 2]`, `{1 2}`}, {`[7 8]`, `[2]`, `[7 8]`}, {`[7 8]`, `[-1]`, `[7 8]`}, {`[7 8]`, `["0"]`, `[7 8]`}, {`[7 8]`, `[true]`, `[7 8]`}, {`#{1}`, `[2]`, `#{1}`}, {`#{1}`, `[1 1]`, `#{1}`}, {`#{[1]}`, `[[1] 1]`, `#{[1]}`}, {`#{[1]}`, `[[2] 0]`, `#{[1]}`}, {`#{[[1]]}`, `[[[1]] 0 1]`, `#{[[1]]}`}, {`{"s" #{[1]}}`, `["s" [1] "x"]`, `{"s" #{[1]}}`},
	} {
		if c.want == "" {
			refused(t, api.ErrPath)(paths.Drop(read(c.v), steps(c.path)))
			continue
		}
		told(t, read(c.want))(paths.Drop(read(c.v), steps(c.path)))
	}
}

// 26.4: of a leaf, of empty maps and lists, of sets, of nested ones.
func TestLeavesByHand(t *testing.T) {
	for _, leaf := range []string{`nil`, `true`, `0`, `-5`, `""`, `"abc"`, `{}`, `[]`, `#{}`, `#{1}`, `#{[1 2] {1 2}}`} {
		checkLeaves(t, read(leaf), list(list()))
		checkLeaves(t, list(read(leaf)), read(`[[0]]`))
		checkLeaves(t, dict(str("k"), read(leaf)), read(`[["k"]]`))
		checkLeaves(t, dict(read(leaf), num(1)), list(list(read(leaf))))
		checkLeaves(t, dict(num(1), list(read(leaf), num(2))), read(`[[1 0] [1 1]]`))
	}
	for _, c := range []struct{ v, want string }{
		{`[7 8 9]`, `[[0] [1] [2]]`}, {`{5 6, 1 2, "a" 3}`, `[[1] [5] ["a"]]`}, {`{"a" [1 []]}`, `[["a" 0] ["a" 1]]`}, {`[[[1]] 2]`, `[[0 0 0] [1]]`}, {`{1 {2 {3 4}}, 5 6}`, `[[1 2 3] [5]]`}, {`[{"b" 1, "a" 2} #{3} []]`, `[[0 "a"] [0 "b"] [1] [2]]`}, {`{[1 2] {[3] [4 5]}}`, `[[[1 2] [3] 0] [[1 2] [3] 1]]`}, {`[nil nil]`, `[[0] [1]]`}, {`{#{1} #{2}}`, `[[#{1}]]`},
	} {
		checkLeaves(t, read(c.v), read(c.want))
	}
}

// 26.4: maps within maps; a map and what is none, either way.
func TestMergeByHand(t *testing.T) {
	for _, c := range []struct{ a, b, want string }{
		{`nil`, `nil`, `nil`}, {`1`, `2`, `2`}, {`{1 2}`, `nil`, `nil`}, {`nil`, `{1 2}`, `{1 2}`}, {`{1 2}`, `[3]`, `[3]`}, {`[3]`, `{1 2}`, `{1 2}`}, {`[1 2]`, `[3]`, `[3]`}, {`#{1}`, `#{2}`, `#{2}`}, {`#{1}`, `{}`, `{}`}, {`{}`, `"a"`, `"a"`},
		{`{}`, `{}`, `{}`}, {`{1 2}`, `{}`, `{1 2}`}, {`{}`, `{1 2}`, `{1 2}`}, {`{1 2}`, `{1 3}`, `{1 3}`}, {`{1 2, 5 6}`, `{3 4}`, `{1 2, 3 4, 5 6}`}, {`{3 4}`, `{1 2, 5 6}`, `{1 2, 3 4, 5 6}`}, {`{1 2, 3 4}`, `{3 5, 6 7}`, `{1 2, 3 5, 6 7}`}, {`{1 nil}`, `{1 5}`, `{1 5}`}, {`{1 5}`, `{1 nil}`, `{1 nil}`},
		{`{"a" {"b" 1}}`, `{"a" {"c" 2}}`, `{"a" {"b" 1, "c" 2}}`}, {`{"a" {"b" 1}}`, `{"a" {"b" 2}, "d" 3}`, `{"a" {"b" 2}, "d" 3}`}, {`{"a" {"b" {"c" 1}}}`, `{"a" {"b" {"d" 2}}}`, `{"a" {"b" {"c" 1, "d" 2}}}`}, {`{"a" {"b" 1}}`, `{"a" {}}`, `{"a" {"b" 1}}`}, {`{"a" {}}`, `{"a" {"b" 1}}`, `{"a" {"b" 1}}`},
		{`{"a" {"b" 1}}`, `{"a" 5}`, `{"a" 5}`}, {`{"a" 5}`, `{"a" {"b" 1}}`, `{"a" {"b" 1}}`}, {`{"a" [{1 2}]}`, `{"a" [{3 4}]}`, `{"a" [{3 4}]}`}, {`{"a" {"b" 1}}`, `{"a" nil}`, `{"a" nil}`}, {`{"a" {"b" 1}, "x" 1}`, `{"y" {"b" 2}}`, `{"a" {"b" 1}, "x" 1, "y" {"b" 2}}`}, {`{{1 2} 3}`, `{{1 3} 4}`, `{{1 2} 3, {1 3} 4}`},
	} {
		told(t, read(c.want))(paths.Merge(read(c.a), read(c.b)))
	}
}

// 26.4: each function; empty maps and lists, and sets, are leaves; keys stay.
func TestWalkByHand(t *testing.T) {
	v := read(`{1 [2 "éa" []], "k" {}, [3] {nil #{4 5}, true nil}}`)
	for fn, want := range [lastFn + 1]string{
		api.FnSame:  `{1 [2 "éa" []], "k" {}, [3] {nil #{4 5}, true nil}}`,
		api.FnInc:   `{1 [3 "éa" []], "k" {}, [3] {nil #{4 5}, true nil}}`,
		api.FnNeg:   `{1 [-2 "éa" []], "k" {}, [3] {nil #{4 5}, true nil}}`,
		api.FnSize:  `{1 [0 2 0], "k" 0, [3] {nil 2, true 0}}`,
		api.FnFirst: `{1 [nil "é" nil], "k" nil, [3] {nil 4, true nil}}`,
		api.FnWrap:  `{1 [[2] ["éa"] [[]]], "k" [{}], [3] {nil [#{4 5}], true [nil]}}`,
		api.FnKind:  `{1 [2 3 4], "k" 6, [3] {nil 5, true 0}}`,
		api.FnHalf:  `{1 [1 "éa" []], "k" {}, [3] {nil #{4 5}, true nil}}`,
	} {
		told(t, read(want))(paths.Walk(v, fn))
	}
	for _, c := range []struct {
		v    string
		fn   int
		want string
	}{
		{`nil`, api.FnWrap, `[nil]`}, {`5`, api.FnInc, `6`}, {`{}`, api.FnKind, `6`}, {`[]`, api.FnKind, `4`}, {`#{}`, api.FnKind, `5`}, {`#{1 2}`, api.FnInc, `#{1 2}`}, {`#{1 2}`, api.FnSize, `2`}, {`[]`, api.FnWrap, `[[]]`}, {`{}`, api.FnWrap, `[{}]`}, {`[[] {} #{} #{[7]}]`, api.FnKind, `[4 6 5 5]`}, {`{1 2}`, api.FnInc, `{1 3}`}, {`[[[1]]]`, api.FnNeg, `[[[-1]]]`}, {`[[1 2] {3 [4]}]`, api.FnSize, `[[0 0] {3 [0]}]`},
	} {
		told(t, read(c.want))(paths.Walk(read(c.v), c.fn))
	}
}

// 26.5: no paths, one path twice, paths within each other, paths at which nothing stands, the empty one ("" is ErrPath).
func TestOnlyByHand(t *testing.T) {
	for _, c := range []struct{ v, paths, want string }{
		{`{1 2}`, `[]`, `{}`}, {`nil`, `[]`, `{}`}, {`5`, `[]`, `{}`}, {`{1 2}`, `[[2]]`, `{}`}, {`5`, `[[0] [1]]`, `{}`},
		{`{1 2, 3 4}`, `[[1]]`, `{1 2}`}, {`{1 2, 3 4}`, `[[3] [1]]`, `{1 2, 3 4}`}, {`{1 2, 3 4}`, `[[1] [1]]`, `{1 2}`}, {`{1 2, 3 4}`, `[[1] [2] [3]]`, `{1 2, 3 4}`}, {`{1 nil}`, `[[1]]`, `{1 nil}`}, {`{1 nil}`, `[[1 2]]`, `{}`},
		{`{"a" {"b" 1, "c" 2}}`, `[["a" "b"]]`, `{"a" {"b" 1}}`}, {`{"a" {"b" 1, "c" 2}}`, `[["a" "b"] ["a"]]`, `{"a" {"b" 1, "c" 2}}`}, {`{"a" {"b" 1, "c" 2}}`, `[["a"] ["a" "b"]]`, `{"a" {"b" 1, "c" 2}}`}, {`{"a" {"b" 1}, "c" 2}`, `[["a" "b"] ["c"] ["a" "x"]]`, `{"a" {"b" 1}, "c" 2}`},
		// A list's places are keys of maps, unless the list itself is there already.
		{`{"a" [7 8]}`, `[["a" 1]]`, `{"a" {1 8}}`}, {`{"a" [7 8]}`, `[["a" 1] ["a" 0]]`, `{"a" {0 7, 1 8}}`}, {`{"a" [7 8]}`, `[["a" 1] ["a"]]`, `{"a" [7 8]}`}, {`{"a" [7 8]}`, `[["a"] ["a" 1]]`, `{"a" [7 8]}`}, {`[7 8]`, `[[1]]`, `{1 8}`}, {`[7 8]`, `[[1] [2] [-1]]`, `{1 8}`},
		{`{1 2}`, `[[]]`, `{1 2}`}, {`5`, `[[]]`, `5`}, {`nil`, `[[]]`, `nil`}, {`#{1}`, `[[] []]`, `#{1}`}, {`[7 8]`, `[[1] []]`, `[7 8]`}, {`[7 8]`, `[[] [1]]`, `[7 8]`}, {`{1 {2 3}}`, `[[] [1 2] [1]]`, `{1 {2 3}}`}, {`5`, `[[] [1]]`, `5`},
		{`#{1}`, `[[1]]`, `{1 1}`}, {`{"s" #{[7]}}`, `[["s" [7]]]`, `{"s" {[7] [7]}}`}, {`{"s" #{[7]}}`, `[["s" [7] 0]]`, `{"s" {[7] {0 7}}}`}, {`{"s" #{1}}`, `[["s" 1] ["s"]]`, `{"s" #{1}}`}, {`{"s" #{1}}`, `[["s"] ["s" 2]]`, `{"s" #{1}}`},
		{`#{1}`, `[[] [1]]`, ``}, {`{"s" #{1}}`, `[["s"] ["s" 1]]`, ``}, {`{"s" #{[7]}}`, `[["s"] ["s" [7] 0]]`, ``}, {`[#{1}]`, `[[0] [0 1]]`, ``}, {`[#{1}]`, `[[] [0 1] []]`, ``},
	} {
		if c.want == "" {
			refused(t, api.ErrPath)(paths.Only(read(c.v), some(c.paths)))
			continue
		}
		told(t, read(c.want))(paths.Only(read(c.v), some(c.paths)))
	}
	told(t, dict())(paths.Only(num(5), nil))
	told(t, dict())(paths.Only(num(5), [][]api.Value{}))
	told(t, num(5))(paths.Only(num(5), [][]api.Value{nil, {}}))
}
