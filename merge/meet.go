package merge

import (
	"iter"

	"spinney/api"
	"spinney/value"
)

// meeting is a key of one map with its value there, whether another map has it, too, and its value in that one.
type meeting struct {
	key, val, other api.Value
	both            bool
}

// meetings goes over one map's keys in its trie order, and asks another map for each. It is handed the maps' methods, so that whoever calls it says which of two maps is walked, and which one asked.
func meetings(walk func() iter.Seq2[api.Value, api.Value], ask func(k api.Value) (api.Value, bool, api.Errno)) iter.Seq[meeting] {
	return func(yield func(meeting) bool) {
		for k, v := range walk() {
			other, both, _ := ask(k)
			if !yield(meeting{key: k, val: v, other: other, both: both}) {
				return
			}
		}
	}
}

// agree tells whether both maps have the key, with the same value.
func (m meeting) agree() bool { return m.both && value.Equal(m.val, m.other) }
