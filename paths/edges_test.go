package paths_test

import (
	"slices"
	"testing"

	"spinney/api"
	"spinney/paths"
	"spinney/sample"
)

// keyed is a map from the numbers below n to themselves; it has 2n + 1 parts.
func keyed(n int) api.Value {
	var items []api.Value
	for _, k := range sample.Numbers(n) {
		items = append(items, k, k)
	}
	return dict(items...)
}

// within is a value at a path of n zeros, within maps alone.
func within(n int, v api.Value) api.Value {
	for range n {
		v = dict(num(0), v)
	}
	return v
}

func numbers(n int) api.Value { return list(sample.Numbers(n)...) }

// 26.2: what comes is just as deep as a value may be, and deeper: ErrLong.
func TestPutTooDeep(t *testing.T) {
	for n := range api.MaxDeep + 1 {
		told(t, within(n, num(5)))(paths.Put(none(), zeros(n), num(5)))
		told(t, within(n, deep(16-n)))(paths.Put(none(), zeros(n), deep(16-n)))
		told(t, within(n, list()))(paths.Put(none(), zeros(n), list()))
		if n > 0 {
			refused(t, api.ErrLong)(paths.Put(none(), zeros(n), deep(17-n)))
			refused(t, api.ErrLong)(paths.Put(deep(16), append(zeros(n-1), num(1)), deep(17-n)))
			told(t, sample.Nested(n-1, list(deep(16-n), deep(16-n))))(paths.Put(sample.Nested(n, deep(16-n)), append(zeros(n-1), num(1)), deep(16-n)))
		}
	}
	refused(t, api.ErrLong)(paths.Put(none(), zeros(17), num(5)))
	// Behind what stood there: a deep value that goes does not count.
	told(t, list(num(1)))(paths.Put(list(deep(15)), zeros(1), num(1)))
	// A step is a key, and counts as deep as it is.
	told(t, dict(deep(15), num(1)))(paths.Put(none(), all(deep(15)), num(1)))
	refused(t, api.ErrLong)(paths.Put(none(), all(deep(16)), num(1)))
	told(t, dict(num(0), dict(deep(14), num(1))))(paths.Put(dict(), all(num(0), deep(14)), num(1)))
	refused(t, api.ErrLong)(paths.Put(dict(), all(num(0), deep(15)), num(1)))
}

// 26.2: what comes has just as many parts as a value may have, and more: ErrLong.
func TestPutTooMany(t *testing.T) {
	full := numbers(api.MaxParts - 1)
	refused(t, api.ErrLong)(paths.Put(full, all(num(api.MaxParts-1)), num(1)))
	told(t, full)(paths.Put(numbers(api.MaxParts-2), all(num(api.MaxParts-2)), num(api.MaxParts-2)))
	told(t, full)(paths.Put(full, all(num(5)), num(5)))
	told(t, full)(paths.Put(full, nil, full))
	refused(t, api.ErrLong)(paths.Put(full, all(num(5)), list(num(5))))
	told(t, keyed(511))(paths.Put(keyed(510), all(num(510)), num(510)))
	refused(t, api.ErrLong)(paths.Put(keyed(511), all(num(511)), num(511)))
	told(t, keyed(511))(paths.Put(keyed(511), all(num(510)), num(510)))
	// The map, the key and what lies under it: a key's parts, too.
	told(t, dict(num(1), numbers(1021)))(paths.Put(none(), all(num(1)), numbers(1021)))
	refused(t, api.ErrLong)(paths.Put(none(), all(num(1)), numbers(1022)))
	told(t, dict(numbers(1021), num(1)))(paths.Put(none(), all(numbers(1021)), num(1)))
	refused(t, api.ErrLong)(paths.Put(none(), all(numbers(1022)), num(1)))
	refused(t, api.ErrLong)(paths.Put(none(), slices.Repeat(all(numbers(1023)), 16), numbers(1023)))
	// What goes does not count.
	told(t, dict(num(1), numbers(1000)))(paths.Put(dict(num(1), numbers(900)), all(num(1)), numbers(1000)))
}

// 26.2: ErrPath comes ahead of ErrLong.
func TestPutPathAheadOfLong(t *testing.T) {
	full := numbers(api.MaxParts - 1)
	refused(t, api.ErrPath)(paths.Put(full, zeros(2), full))
	refused(t, api.ErrPath)(paths.Put(full, all(num(api.MaxParts)), num(1)))
	refused(t, api.ErrPath)(paths.Put(set(full.Items...), all(full), full))
	refused(t, api.ErrPath)(paths.Put(dict(num(0), num(5)), zeros(16), deep(16)))
	refused(t, api.ErrPath)(paths.Update(numbers(5), all(num(6)), api.FnWrap))
	refused(t, api.ErrLong)(paths.Update(deep(16), zeros(16), api.FnWrap))
	told(t, list(deep(15), list(none())))(paths.Update(list(deep(15)), all(num(1)), api.FnWrap))
	// What FnWrap can make nothing of is a VNil.
	told(t, none())(paths.Update(full, nil, api.FnWrap))
	refused(t, api.ErrLong)(paths.Update(full, zeros(1), api.FnWrap))
	refused(t, api.ErrLong)(paths.Update(full, all(num(api.MaxParts-1)), api.FnSame))
	refused(t, api.ErrPath)(paths.Update(full, all(num(api.MaxParts)), api.FnSame))
}

// 26.3: of values at the limits, at paths of MaxDeep steps.
func TestDropAtTheLimits(t *testing.T) {
	told(t, sample.Nested(15, list()))(paths.Drop(deep(16), zeros(16)))
	told(t, within(15, dict()))(paths.Drop(within(16, num(1)), zeros(16)))
	told(t, deep(16))(paths.Drop(deep(16), append(zeros(15), num(1))))
	refused(t, api.ErrLong)(paths.Drop(deep(16), zeros(17)))
	told(t, numbers(api.MaxParts-2))(paths.Drop(numbers(api.MaxParts-1), all(num(api.MaxParts-2))))
	told(t, keyed(510))(paths.Drop(keyed(511), all(num(510))))
	told(t, set(sample.Numbers(1022)...))(paths.Drop(set(sample.Numbers(1023)...), all(num(1022))))
}

// 26.4
func TestLeavesAtTheLimits(t *testing.T) {
	checkLeaves(t, deep(16), list(list(zeros(16)...)))
	checkLeaves(t, sample.Nested(16, list()), list(list(zeros(16)...)))
	checkLeaves(t, within(16, dict()), list(list(zeros(16)...)))
	var want []api.Value
	for _, k := range sample.Numbers(api.MaxParts - 1) {
		want = append(want, list(k))
	}
	checkLeaves(t, numbers(api.MaxParts-1), list(want...))
	checkLeaves(t, keyed(511), list(want[:511]...))
}

// 26.4: maps that together have just as many parts as a value may have, and more.
func TestMergeTooMany(t *testing.T) {
	whole := keyed(511)
	for _, n := range []int{0, 1, 255, 511} {
		ahead, behind := dict(whole.Items[:2*n]...), dict(whole.Items[2*n:]...)
		told(t, whole)(paths.Merge(ahead, behind))
		told(t, whole)(paths.Merge(behind, ahead))
		told(t, whole)(paths.Merge(whole, ahead))
		told(t, whole)(paths.Merge(ahead, whole))
	}
	more := dict(str("a"), num(1))
	refused(t, api.ErrLong)(paths.Merge(whole, more))
	refused(t, api.ErrLong)(paths.Merge(more, whole))
	refused(t, api.ErrLong)(paths.Merge(dict(append(whole.Items[:500:500], more.Items...)...), dict(whole.Items[500:]...)))
	// The whole has room for one part more, and for no second one.
	told(t, dict(append(whole.Items[:1020:1020], num(510), list(num(1)))...))(paths.Merge(whole, dict(num(510), list(num(1)))))
	refused(t, api.ErrLong)(paths.Merge(whole, dict(num(510), list(num(1), num(2)))))
	refused(t, api.ErrLong)(paths.Merge(dict(num(0), keyed(300)), dict(num(0), dict(str("a"), numbers(500)))))
	told(t, dict(num(0), keyed(300)))(paths.Merge(dict(num(0), keyed(300)), dict(num(0), keyed(300))))
	// None of them is deeper than both were.
	told(t, within(16, num(2)))(paths.Merge(within(16, num(1)), within(16, num(2))))
}

// 26.4: what a function makes of leaves may be too much, or too deep.
func TestWalkTooMuch(t *testing.T) {
	told(t, numbers(api.MaxParts-1))(paths.Walk(numbers(api.MaxParts-1), api.FnSame))
	refused(t, api.ErrLong)(paths.Walk(numbers(api.MaxParts-1), api.FnWrap))
	refused(t, api.ErrLong)(paths.Walk(numbers(512), api.FnWrap))
	var want []api.Value
	for _, k := range sample.Numbers(511) {
		want = append(want, list(k))
	}
	told(t, list(want...))(paths.Walk(numbers(511), api.FnWrap))
	told(t, deep(16))(paths.Walk(deep(15), api.FnWrap))
	refused(t, api.ErrLong)(paths.Walk(deep(16), api.FnWrap))
	refused(t, api.ErrLong)(paths.Walk(within(16, list()), api.FnWrap))
	// A set is a leaf, however great, and FnWrap makes a VNil of one that it can not wrap.
	told(t, none())(paths.Walk(set(sample.Numbers(1023)...), api.FnWrap))
	told(t, list(set(sample.Numbers(1022)...)))(paths.Walk(set(sample.Numbers(1022)...), api.FnWrap))
	refused(t, api.ErrLong)(paths.Walk(list(set(sample.Numbers(1022)...)), api.FnWrap))
}

// 26.5: MaxLen paths; Put's ErrLong, path by path, though a later path would put less.
func TestOnlyAtTheLimits(t *testing.T) {
	v := keyed(511)
	var many [][]api.Value
	for i := range api.MaxLen {
		many = append(many, all(num(int64(i%600))))
	}
	told(t, v)(paths.Only(v, many))
	told(t, num(5))(paths.Only(num(5), make([][]api.Value, api.MaxLen)))
	refused(t, api.ErrLong)(paths.Only(v, append(many, nil)))
	// In maps, a list's items are twice as many parts.
	wide := numbers(600)
	told(t, keyed(511))(paths.Only(wide, many[:511]))
	refused(t, api.ErrLong)(paths.Only(wide, many[:512]))
	refused(t, api.ErrLong)(paths.Only(wide, append(many[:512:512], nil)))
	told(t, wide)(paths.Only(wide, append([][]api.Value{nil}, many[:512]...)))
	told(t, wide)(paths.Only(wide, append(many[:511:511], nil)))
	// ErrPath of an earlier path comes ahead of ErrLong of a later one, and the other way round.
	both := list(set(num(1)), numbers(600))
	long := make([][]api.Value, 512)
	for i := range long {
		long[i] = all(num(1), num(int64(i)))
	}
	path := [][]api.Value{all(num(0)), all(num(0), num(1))}
	refused(t, api.ErrPath)(paths.Only(both, append(path, long...)))
	refused(t, api.ErrLong)(paths.Only(both, append(long, path...)))
	told(t, within(16, num(1)))(paths.Only(deep(16), [][]api.Value{zeros(16)}))
}
