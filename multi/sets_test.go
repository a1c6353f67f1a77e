package multi

import (
	"slices"
	"testing"

	"spinney/api"
	"spinney/sample"
)

// ints are pairs of numbers: a key, its value, a key, its value ..
func ints(l ...int64) []api.Pair {
	var out []api.Pair
	for n := range slices.Chunk(l, 2) {
		out = append(out, api.Pair{Key: sample.Num(n[0]), Val: sample.Num(n[1])})
	}
	return out
}

// inOrder are pairs in trie order of their keys, those of one key in trie order of their values.
func inOrder(kind int, l []api.Pair) []api.Pair {
	out := slices.Clone(l)
	slices.SortFunc(out, func(a, b api.Pair) int {
		if c := sample.CompareInTrie(kind, a.Key, b.Key); c != 0 {
			return c
		}
		return sample.CompareInTrie(kind, a.Val, b.Val)
	})
	return out
}

// The chapter's ways: pairs come through an iterator, which is gone over again, left at each place, and gone over within itself.
func TestAll(t *testing.T) {
	for kind := range api.MaxHash + 1 {
		l := ints(1, 5, 1, 7, 2, 5, 3, 0, 3, 1, 3, 2)
		m, _ := Of(kind, l)
		all, want := m.all(), inOrder(kind, l)
		for n := range len(want) + 1 {
			var got []api.Pair
			for k, v := range all {
				if len(got) == n {
					break
				}
				got = append(got, api.Pair{Key: k, Val: v})
			}
			if !sample.SamePairs(got, want[:n]) {
				t.Fatalf("kind %d: left at %d: %v", kind, n, got)
			}
		}
		outer := 0
		for k, v := range all {
			inner := 0
			for range all {
				inner++
			}
			m.Drop(k, v)
			if inner != len(want) || !sample.SamePairs([]api.Pair{{Key: k, Val: v}}, want[outer:outer+1]) {
				t.Fatalf("kind %d: %d within %d", kind, inner, outer)
			}
			outer++
		}
	}
}

// Pairs are told by their keys, each once, whatever their order; and may be left early.
func TestByKeys(t *testing.T) {
	var l []api.Pair
	for range 3 {
		l = append(l, ints(3, 1, 1, 5, 2, 5, 1, 7, 3, 1, 1, 5)...)
	}
	told := ""
	for k, values := range byKeys(l) {
		told += string(rune('0' + k.Num))
		for _, v := range values {
			told += string(rune('a' + v.Num))
		}
	}
	if told != "1fh2f3b" {
		t.Errorf("%s", told)
	}
	for range byKeys(nil) {
		t.Errorf("a key of none")
	}
	for n := range 3 {
		asked := 0
		for range byKeys(l) {
			if asked == n {
				break
			}
			asked++
		}
		if asked != n {
			t.Errorf("left at %d, want %d", asked, n)
		}
	}
}

// The words of the chapter: no key has a set that is empty, or of another kind.
func TestSetsAreNotEmpty(t *testing.T) {
	for kind := range api.MaxHash + 1 {
		s := sample.New(uint64(kind))
		m, _ := New(kind)
		for range 100 {
			k, v := sample.Num(int64(s.Below(4))), sample.Num(int64(s.Below(4)))
			switch s.Below(5) {
			case 0, 1:
				m, _ = m.Put(k, v)
			case 2:
				m, _ = m.Drop(k, v)
			case 3:
				other, _ := Of(s.Below(api.MaxHash+1), ints(1, 2))
				m, _ = Union(m, other)
			case 4:
				m = m.Turn()
			}
			sum := 0
			for k, set := range m.each() {
				if set.Len() == 0 || set.Kind() != kind {
					t.Fatalf("kind %d: under %v a set of %d, of kind %d", kind, k, set.Len(), set.Kind())
				}
				sum += set.Len()
			}
			if sum != m.size {
				t.Fatalf("kind %d: %d pairs, sets of %d", kind, m.size, sum)
			}
		}
	}
}

// A change makes what lies on its way anew, and shares all else with the old one.
func TestSetsAreShared(t *testing.T) {
	var l []api.Pair
	for k := range int64(100) {
		for v := range int64(300) {
			l = append(l, api.Pair{Key: sample.Num(k), Val: sample.Num(v)})
		}
	}
	m, _ := Of(0, l)
	few, _ := Of(0, ints(1, 2, 1, 1000, 1000, 1))
	for name, call := range map[string]func(){
		"Put":   func() { m.Put(sample.Num(5), sample.Num(-1)) },
		"Drop":  func() { m.Drop(sample.Num(5), sample.Num(5)) },
		"Clear": func() { m.Clear(sample.Num(5)) },
		"Get":   func() { m.Get(sample.Num(5)) },
		"Union": func() { Union(m, few) },
	} {
		if times := testing.AllocsPerRun(5, call); times > 500 {
			t.Errorf("%s: memory was taken %v times", name, times)
		}
	}
}
