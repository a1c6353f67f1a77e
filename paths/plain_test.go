package paths_test

import (
	"maps"
	"slices"
	"strconv"
	"testing"

	"spinney/api"
	"spinney/fns"
	"spinney/paths"
	"spinney/sample"
	"spinney/text"
	"spinney/value"
)

// A plain value is made of Go's own maps and lists: a map[string]any of a map, by the texts of its keys, a []any of a list, a plainSet of a set, by its members' texts; of all else its text. Steps are texts, too.
type plainSet map[string]int

func printed(v api.Value) string {
	s, e := text.Print(v)
	if e != api.OK {
		panic(e)
	}
	return s
}

func printedAll(path []api.Value) []string {
	var out []string
	for _, s := range path {
		out = append(out, printed(s))
	}
	return out
}

func plain(v api.Value) any {
	switch v.Kind {
	case api.VMap:
		out := map[string]any{}
		for i := 0; i < len(v.Items); i += 2 {
			out[printed(v.Items[i])] = plain(v.Items[i+1])
		}
		return out
	case api.VList:
		out := []any{}
		for _, x := range v.Items {
			out = append(out, plain(x))
		}
		return out
	case api.VSet:
		out := plainSet{}
		for _, x := range v.Items {
			out[printed(x)] = 1
		}
		return out
	}
	return printed(v)
}

// sortedKeys are keys as values, in natural order.
func sortedKeys[V any](m map[string]V) []api.Value {
	var out []api.Value
	for k := range m {
		out = append(out, read(k))
	}
	slices.SortFunc(out, value.Compare)
	return out
}

// back is the value again; it need not be right.
func back(p any) api.Value {
	switch p := p.(type) {
	case map[string]any:
		var items []api.Value
		for _, k := range sortedKeys(p) {
			items = append(items, k, back(p[printed(k)]))
		}
		return dict(items...)
	case []any:
		var items []api.Value
		for _, x := range p {
			items = append(items, back(x))
		}
		return list(items...)
	case plainSet:
		return set(sortedKeys(p)...)
	}
	return read(p.(string))
}

// number is the place that a step names, or -1.
func number(s string) int {
	n, err := strconv.Atoi(s)
	if err != nil || n < 0 || strconv.Itoa(n) != s {
		return -1
	}
	return n
}

// plainPart is the part of a plain value that a step leads to.
func plainPart(p any, s string) (any, bool) {
	switch p := p.(type) {
	case map[string]any:
		x, ok := p[s]
		return x, ok
	case []any:
		if n := number(s); n >= 0 && n < len(p) {
			return p[n], true
		}
	case plainSet:
		if p[s] == 1 {
			return plain(read(s)), true
		}
	}
	return nil, false
}

func plainGet(p any, path []string) (any, bool) {
	for _, s := range path {
		var ok bool
		if p, ok = plainPart(p, s); !ok {
			return nil, false
		}
	}
	return p, true
}

// plainPut goes from the path's end to its front: what stands at each beginning of it, with what came of the step behind.
func plainPut(p any, path []string, x any) (any, bool) {
	for n := len(path) - 1; n >= 0; n-- {
		under, ok := plainGet(p, path[:n])
		if !ok || under == "nil" {
			under = map[string]any{}
		}
		switch u := under.(type) {
		case map[string]any:
			m := maps.Clone(u)
			m[path[n]] = x
			x = m
		case []any:
			at := number(path[n])
			if at < 0 || at > len(u) {
				return nil, false
			}
			l := append(slices.Clone(u), nil)
			l[at] = x
			x = l[:max(len(u), at+1)]
		default:
			return nil, false
		}
	}
	return x, true
}

// reachable tells whether a beginning of a path at which nothing stands has nothing ahead of it but what Put may go through.
func reachable(p any, path []string) bool {
	for n := range path {
		under, ok := plainGet(p, path[:n])
		if !ok {
			return true
		}
		switch u := under.(type) {
		case map[string]any:
		case []any:
			if at := number(path[n]); at < 0 || at > len(u) {
				return false
			}
		default:
			return under == "nil"
		}
	}
	return true
}

// wantPut is what Put is to tell: ErrPath, ErrLong, or the value.
func wantPut(v api.Value, path []api.Value, x api.Value) (api.Value, api.Errno) {
	steps := printedAll(path)
	p := plain(v)
	if !reachable(p, steps) {
		return none(), api.ErrPath
	}
	got, ok := plainPut(p, steps, plain(x))
	if !ok {
		return none(), api.ErrPath
	}
	return limited(back(got))
}

func limited(v api.Value) (api.Value, api.Errno) {
	if value.Check(v) != api.OK {
		return none(), api.ErrLong
	}
	return v, api.OK
}

// wantDrop is what Drop is to tell.
func wantDrop(v api.Value, path []api.Value) (api.Value, api.Errno) {
	steps := printedAll(path)
	p := plain(v)
	if len(steps) == 0 {
		return none(), api.ErrPath
	}
	if _, ok := plainGet(p, steps); !ok {
		return v, api.OK
	}
	last := steps[len(steps)-1]
	under, _ := plainGet(p, steps[:len(steps)-1])
	var x any
	switch u := under.(type) {
	case map[string]any:
		m := maps.Clone(u)
		delete(m, last)
		x = m
	case []any:
		at := number(last)
		x = append(slices.Clone(u[:at]), u[at+1:]...)
	case plainSet:
		m := maps.Clone(u)
		delete(m, last)
		x = m
	}
	got, ok := plainPut(p, steps[:len(steps)-1], x)
	if !ok {
		return none(), api.ErrPath
	}
	return back(got), api.OK
}

// plainLeaves are paths with what stands there, in order.
func plainLeaves(p any, path []api.Value) []api.Value {
	var out []api.Value
	switch p := p.(type) {
	case map[string]any:
		for _, k := range sortedKeys(p) {
			out = append(out, plainLeaves(p[printed(k)], append(slices.Clone(path), k))...)
		}
	case []any:
		for i, x := range p {
			out = append(out, plainLeaves(x, append(slices.Clone(path), num(int64(i))))...)
		}
	}
	if out == nil {
		return all(list(path...))
	}
	return out
}

func plainMerge(a, b any) any {
	m, ok := a.(map[string]any)
	n, too := b.(map[string]any)
	if !ok || !too {
		return b
	}
	out := maps.Clone(m)
	for k, x := range n {
		if old, ok := m[k]; ok {
			x = plainMerge(old, x)
		}
		out[k] = x
	}
	return out
}

// wantWalk puts what the function makes of it at each leaf, one by one.
func wantWalk(v api.Value, fn int) (api.Value, api.Errno) {
	p := plain(v)
	for _, path := range plainLeaves(p, nil) {
		steps := printedAll(path.Items)
		leaf, _ := plainGet(p, steps)
		x, _ := fns.One(fn, back(leaf))
		p, _ = plainPut(p, steps, plain(x))
	}
	return limited(back(p))
}

func wantOnly(v api.Value, ways [][]api.Value) (api.Value, api.Errno) {
	out, e := dict(), api.OK
	for _, path := range ways {
		x, ok := plainGet(plain(v), printedAll(path))
		if !ok {
			continue
		}
		if out, e = wantPut(out, path, back(x)); e != api.OK {
			return none(), e
		}
	}
	return out, api.OK
}

// agrees holds what a call tells against a plain value, and reads what is printed of it (P10).
func agrees(t *testing.T, name string, want api.Value, wantError api.Errno) func(api.Value, api.Errno) {
	t.Helper()
	return func(got api.Value, e api.Errno) {
		t.Helper()
		if !sample.Same(got, want) || e != wantError || !sample.Same(read(printed(got)), want) {
			t.Errorf("%s: %s, %v, want %s, %v", name, shown(got), e, shown(want), wantError)
		}
	}
}

// askAll asks all calls with a value, a path and another value.
func askAll(t *testing.T, v api.Value, path []api.Value, x api.Value) {
	t.Helper()
	name := "of " + shown(v) + " at " + shownPath(path) + " with " + shown(x)
	stands, ok := plainGet(plain(v), printedAll(path))
	if ok {
		checkGet(t, v, path, back(stands))
	} else {
		checkNothing(t, v, path, api.OK)
		stands = "nil"
	}
	want, e := wantPut(v, path, x)
	agrees(t, "Put "+name, want, e)(paths.Put(v, path, x))
	for fn := range lastFn + 1 {
		made, _ := fns.One(fn, back(stands))
		want, e := wantPut(v, path, made)
		agrees(t, "Update "+name, want, e)(paths.Update(v, path, fn))
	}
	want, e = wantDrop(v, path)
	agrees(t, "Drop "+name, want, e)(paths.Drop(v, path))
}

// few are small values of all kinds, within each other.
func few() []api.Value {
	var out []api.Value
	for _, s := range []string{
		`nil`, `true`, `0`, `1`, `"a"`, `[]`, `#{}`, `{}`, `[0]`, `[nil]`, `[[]]`, `[{}]`, `[1 [0 "a"]]`, `[#{0} 1]`, `[{0 1} {"a" 2}]`, `[[[5]]]`, `[0 1 2]`,
		`#{0}`, `#{nil "a"}`, `#{[0]}`, `#{[[7]] {0 [1]}}`, `#{#{0 1}}`, `{0 0}`, `{0 nil}`, `{"a" {}}`, `{"a" []}`, `{"a" {"a" 1}}`, `{0 [1 2], "a" {0 3}}`, `{[0] {[0] 1}}`, `{nil 1, 1 2}`, `{"a" #{0 [0]}}`, `{0 {0 {0 1}}, 1 {1 [1]}}`, `{"a" [[1] {0 2}]}`,
	} {
		out = append(out, read(s))
	}
	return out
}

// P2, 26.1 to 26.3: all paths of at most three of these steps.
func TestShortPathsAgainstPlainValues(t *testing.T) {
	alphabet := steps(`[nil -1 0 1 2 "a" [0] true]`)
	ways := [][]api.Value{nil}
	for from := 0; len(ways) < 1+8+64+512; from++ {
		for _, s := range alphabet {
			ways = append(ways, append(slices.Clone(ways[from]), s))
		}
	}
	s := sample.New(1)
	for _, v := range few() {
		for _, path := range ways {
			askAll(t, v, path, s.Value(1))
		}
	}
}

// wander is a path that often leads on, sometimes nowhere.
func wander(s *sample.Source, v api.Value) []api.Value {
	var path []api.Value
	for range s.Below(6) {
		step := s.Value(1)
		ahead, _, _ := paths.Get(v, path)
		if n := len(ahead.Items); n > 0 && s.Below(8) > 0 {
			at := s.Below(n)
			switch ahead.Kind {
			case api.VMap:
				step = ahead.Items[at/2*2]
			case api.VSet:
				step = ahead.Items[at]
			case api.VList:
				step = num(int64(s.Below(n + 1)))
			}
		}
		path = append(path, step)
	}
	return path
}

// P2, 26.1 to 26.5
func TestValuesAgainstPlainValues(t *testing.T) {
	s := sample.New(2)
	values := append(few(), s.Values(400, 4)...)
	for i, v := range values {
		for range 6 {
			askAll(t, v, wander(s, v), s.Value(3))
		}
		checkLeaves(t, v, list(plainLeaves(plain(v), nil)...))
		for fn := range lastFn + 1 {
			want, e := wantWalk(v, fn)
			agrees(t, "Walk of "+shown(v), want, e)(paths.Walk(v, fn))
		}
		for _, other := range []api.Value{values[s.Below(len(values))], values[(i+1)%len(values)], v} {
			want, e := limited(back(plainMerge(plain(v), plain(other))))
			agrees(t, "Merge of "+shown(v)+" and "+shown(other), want, e)(paths.Merge(v, other))
		}
		var ways [][]api.Value
		for range s.Below(6) {
			ways = append(ways, wander(s, v))
		}
		want, e := wantOnly(v, ways)
		agrees(t, "Only of "+shown(v), want, e)(paths.Only(v, ways))
	}
}

// P2, 26.4: maps of few keys, so that many are in both.
func TestMergeAgainstPlainValues(t *testing.T) {
	s := sample.New(3)
	var nested func(deep int) api.Value
	nested = func(deep int) api.Value {
		if deep == 0 || s.Below(4) == 0 {
			return num(int64(s.Below(9)))
		}
		var items []api.Value
		for _, k := range sample.Numbers(4) {
			if s.Below(2) == 0 {
				items = append(items, k, nested(deep-1))
			}
		}
		return dict(items...)
	}
	for range 600 {
		a, b := nested(4), nested(4)
		want, e := limited(back(plainMerge(plain(a), plain(b))))
		agrees(t, "Merge of "+shown(a)+" and "+shown(b), want, e)(paths.Merge(a, b))
	}
}
