package hash

import (
	"spinney/api"
	"spinney/murmur"
)

// The published hashes of the two truths.
const (
	hashFalse = 1237
	hashTrue  = 1231
)

// full is the full hash of a right value.
func full(v api.Value) uint32 {
	switch v.Kind {
	case api.VBool:
		return truth(v.Num)
	case api.VInt:
		return murmur.Long(v.Num)
	case api.VStr:
		return murmur.Int(murmur.Java(units(v.Text)))
	case api.VList:
		return murmur.Ordered(hashes(v.Items))
	case api.VSet:
		return murmur.Unordered(hashes(v.Items))
	case api.VMap:
		return murmur.Unordered(entries(v.Items))
	}
	return 0
}

func truth(num int64) uint32 {
	if num == 0 {
		return hashFalse
	}
	return hashTrue
}

// units are the UTF-16 units of a text.
func units(s string) []uint16 {
	var out []uint16
	for _, r := range s {
		last := r
		switch {
		case r > 0xffff:
			c := r - 0x10000
			out = append(out, uint16(0xd800|c>>10))
			last = 0xdc00 | c&0x3ff
			fallthrough
		default:
			out = append(out, uint16(last))
		}
	}
	return out
}

func hashes(l []api.Value) []uint32 {
	out := make([]uint32, len(l))
	for i, v := range l {
		out[i] = full(v)
	}
	return out
}

// entries are the hashes of a map's pairs.
func entries(items []api.Value) []uint32 {
	out := make([]uint32, len(items)/2)
	for i := range out {
		out[i] = Entry(full(items[2*i]), full(items[2*i+1]))
	}
	return out
}
