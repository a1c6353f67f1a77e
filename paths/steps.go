package paths

import (
	"slices"
	"sort"

	"spinney/api"
	"spinney/value"
)

// rest are the steps behind the first one. Their room ends with them, so that nothing can be written behind a path that was handed in.
func rest(path []api.Value) []api.Value { return path[1:len(path):len(path)] }

// place is where among a value's items its part s stands, and whether it has one. Of a map without it, that is where it would stand, if the key and it were put in.
func place(v, s api.Value) (int, bool) {
	switch v.Kind {
	case api.VNil, api.VMap:
		n, ok := sort.Find(len(v.Items)/2, func(i int) int { return value.Compare(s, v.Items[2*i]) })
		return 2*n + 1, ok
	case api.VList:
		return int(s.Num), s.Kind == api.VInt && s.Num >= 0 && s.Num < int64(len(v.Items))
	case api.VSet:
		return slices.BinarySearchFunc(v.Items, s, value.Compare)
	}
	return 0, false
}

// at is what stands at a path, and whether something does.
func at(v api.Value, path []api.Value) (api.Value, bool) {
	if len(path) == 0 {
		return v, true
	}
	i, ok := place(v, path[0])
	if !ok {
		return api.Value{}, false
	}
	return at(v.Items[i], rest(path))
}

// put makes anew what the path leads through, and shares all else with v, the path and x.
func put(v api.Value, path []api.Value, x api.Value) (api.Value, api.Errno) {
	if len(path) == 0 {
		return x, api.OK
	}
	v.Items = slices.Clone(v.Items)
	v, i, e := opened(v, path[0])
	if e != api.OK {
		return api.Value{}, e
	}
	v.Items[i], e = put(v.Items[i], rest(path), x)
	return v, e
}

// opened is a value with a part s: with a VNil for it, if it had none; and where that stands. It lays the part into the items themselves, so they are to be nobody else's.
func opened(v, s api.Value) (api.Value, int, api.Errno) {
	i, ok := place(v, s)
	switch v.Kind {
	case api.VNil:
		v.Kind = api.VMap
		fallthrough
	case api.VMap:
		if !ok {
			v.Items = slices.Insert(v.Items, i-1, s, api.Value{})
		}
		return v, i, api.OK
	case api.VList:
		if isNumber(s, len(v.Items)) {
			v.Items, ok = append(v.Items, api.Value{}), true
		}
		if ok {
			return v, i, api.OK
		}
	}
	return api.Value{}, 0, api.ErrPath
}

func isNumber(s api.Value, n int) bool { return s.Kind == api.VInt && s.Num == int64(n) }

// drop takes away what stands at a path, where something does.
func drop(v api.Value, path []api.Value) (api.Value, api.Errno) {
	i, _ := place(v, path[0])
	if len(path) == 1 {
		return without(v, i), api.OK
	}
	if v.Kind == api.VSet {
		return api.Value{}, api.ErrPath
	}
	v.Items = slices.Clone(v.Items)
	var e api.Errno
	v.Items[i], e = drop(v.Items[i], rest(path))
	return v, e
}

// without is a value without the part that stands in a place of its items.
func without(v api.Value, i int) api.Value {
	from := i
	switch v.Kind {
	case api.VMap:
		// The key goes, too.
		from--
		fallthrough
	case api.VList, api.VSet:
		v.Items = slices.Concat(v.Items[:from], v.Items[i+1:])
	}
	return v
}
