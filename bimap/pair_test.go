package bimap

import (
	"testing"

	"spinney/api"
	"spinney/champ"
	"spinney/merge"
	"spinney/sample"
)

// turnedAbout is a hash map of a map's pairs turned about, of its kind.
func turnedAbout(m *champ.Map) *champ.Map {
	var l []api.Pair
	for k, v := range m.All() {
		l = append(l, api.Pair{Key: v, Val: k})
	}
	out, _ := champ.Of(m.Kind(), l)
	return out
}

// The chapter's ways: of the two maps of the pair each is the other one turned about, of one kind, whatever is done.
func TestTwoMapsOfOnePair(t *testing.T) {
	for kind := range api.MaxHash + 1 {
		s := sample.New(uint64(kind))
		m, _ := New(kind)
		for range 100 {
			k, v := sample.Num(int64(s.Below(9))), sample.Num(int64(s.Below(9)))
			switch s.Below(6) {
			case 0:
				m, _ = m.Delete(k)
			case 1:
				m, _ = m.DeleteBy(v)
			case 2:
				m = m.Inverse()
			default:
				m, _ = m.Put(k, v)
			}
			if m.there.Kind() != kind || m.back.Kind() != kind || m.there.Len() != m.back.Len() || !merge.Equal(turnedAbout(m.there), m.back) {
				t.Fatalf("kind %d: %v and %v", kind, m.there.Pairs(), m.back.Pairs())
			}
		}
	}
}

// Where nothing is to be changed, the map itself is told.
func TestTheSame(t *testing.T) {
	m, _ := New(3)
	m, _ = m.Put(sample.Num(1), sample.Num(10))
	put, _ := m.Put(sample.Num(1), sample.Num(10))
	byKey, _ := m.Delete(sample.Num(10))
	byValue, _ := m.DeleteBy(sample.Num(1))
	if put != m || byKey != m || byValue != m {
		t.Errorf("another map, though nothing was changed")
	}
}

// A change makes what lies on its way anew, and shares all else with the old one; Inverse shares all.
func TestNodesAreShared(t *testing.T) {
	m, _ := New(0)
	for i := range int64(20000) {
		m, _ = m.Put(sample.Num(i), sample.Num(-i-1))
	}
	for name, call := range map[string]func(){
		"Put":      func() { m.Put(sample.Num(5), sample.Num(-10)) },
		"Delete":   func() { m.Delete(sample.Num(5)) },
		"DeleteBy": func() { m.DeleteBy(sample.Num(-5)) },
		"Get":      func() { m.Get(sample.Num(5)) },
		"By":       func() { m.By(sample.Num(-5)) },
		"Inverse":  func() { m.Inverse() },
	} {
		if times := testing.AllocsPerRun(5, call); times > 500 {
			t.Errorf("%s: memory was taken %v times", name, times)
		}
	}
	if turned := m.Inverse(); turned.there != m.back || turned.back != m.there {
		t.Errorf("Inverse made maps anew")
	}
}
