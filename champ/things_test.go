package champ_test

import (
	"testing"

	"spinney/api"
	"spinney/champ"
	"spinney/model"
	"spinney/sample"
)

// thing is what lies under keys here; each is told apart by where it is.
type thing struct{ n int }

// laid is a key with what lies under it.
type laid struct {
	key   api.Value
	thing *thing
}

// mustThings is one that came without an error.
func mustThings(t *testing.T) func(*champ.Things, api.Errno) *champ.Things {
	return func(m *champ.Things, e api.Errno) *champ.Things {
		t.Helper()
		if m == nil || e != api.OK {
			t.Fatalf("no things: %v", e)
		}
		return m
	}
}

// checkThings asks for a kind, for the keys in trie order, and for the very things that were laid under them.
func checkThings(t *testing.T, m *champ.Things, kind int, plain []laid) {
	t.Helper()
	var keys []api.Value
	for _, l := range plain {
		keys = append(keys, l.key)
		if x, there, e := m.Get(l.key); x != l.thing || !there || e != api.OK {
			t.Fatalf("Get(%s): %v, %v, %v", short(l.key), x, there, e)
		}
	}
	want := sample.InTrieOrder(kind, keys)
	var got []api.Value
	for k, x := range m.All() {
		if y, _, _ := m.Get(k); x != y {
			t.Fatalf("All: %v under %s, want %v", x, short(k), y)
		}
		got = append(got, k)
	}
	if m == nil || m.Kind() != kind || m.Len() != len(want) || !sample.SameAll(got, want) {
		t.Fatalf("%s of kind %d, want %s of kind %d", short(got), m.Kind(), short(want), kind)
	}
}

// without is a plain list without a key.
func without(l []laid, k api.Value) []laid {
	var out []laid
	for _, x := range l {
		if !sample.Same(x.key, k) {
			out = append(out, x)
		}
	}
	return out
}

// 7.5: things come and go under keys of all kinds; older versions stay as they were.
func TestThings(t *testing.T) {
	type version struct {
		m     *champ.Things
		plain []laid
	}
	for kind := range api.MaxHash + 1 {
		s := sample.New(uint64(kind))
		keys := s.Keys(12)
		now := version{mustThings(t)(champ.NewThings(kind)), nil}
		versions := []version{now}
		for turn := range 60 {
			k := keys[s.Below(len(keys))]
			rest := without(now.plain, k)
			if s.Below(3) > 0 {
				x := &thing{turn}
				now = version{mustThings(t)(now.m.Assoc(k, x)), append(rest, laid{k, x})}
			} else {
				now = version{mustThings(t)(now.m.Dissoc(k)), rest}
				if x, there, e := now.m.Get(k); x != nil || there || e != api.OK {
					t.Fatalf("Get(%s): %v, %v, %v", short(k), x, there, e)
				}
			}
			checkThings(t, now.m, kind, now.plain)
			versions = append(versions, now)
		}
		for _, v := range versions {
			checkThings(t, v.m, kind, v.plain)
		}
	}
	for _, kind := range sample.Beyond(api.MaxHash) {
		if m, e := champ.NewThings(kind); m != nil || e != api.ErrKind {
			t.Errorf("NewThings(%d): %v", kind, e)
		}
	}
}

// R1, R6: nil and zero ones are empty ones of kind 0; keys that are not right.
func TestThingsOfNone(t *testing.T) {
	for _, m := range []*champ.Things{nil, {}} {
		if m.Kind() != 0 || m.Len() != 0 {
			t.Errorf("%v", m)
		}
		for range m.All() {
			t.Errorf("a key of none")
		}
		x := &thing{1}
		checkThings(t, mustThings(t)(m.Assoc(num(1), x)), 0, []laid{{num(1), x}})
		checkThings(t, mustThings(t)(m.Dissoc(num(1))), 0, nil)
		some := mustThings(t)(m.Assoc(num(1), nil))
		if y, there, e := some.Get(num(1)); y != nil || !there || e != api.OK {
			t.Errorf("Get: %v, %v, %v", y, there, e)
		}
		for _, w := range sample.Wrongs() {
			checkThingsErrors(t, m, w)
			checkThingsErrors(t, some, w)
		}
	}
}

func checkThingsErrors(t *testing.T, m *champ.Things, w api.Value) {
	t.Helper()
	if x, there, e := m.Get(w); x != nil || there || e != api.ErrValue {
		t.Errorf("Get(%s): %v, %v, %v", short(w), x, there, e)
	}
	if more, e := m.Assoc(w, 1); more != nil || e != api.ErrValue {
		t.Errorf("Assoc(%s): %v", short(w), e)
	}
	if less, e := m.Dissoc(w); less != nil || e != api.ErrValue {
		t.Errorf("Dissoc(%s): %v", short(w), e)
	}
}

// MaxLen keys, and one more.
func TestThingsOfMaxLen(t *testing.T) {
	full := mustThings(t)(champ.NewThings(0))
	for i, k := range sample.Numbers(api.MaxLen) {
		full = mustThings(t)(full.Assoc(k, i))
	}
	if m, e := full.Assoc(num(-1), 0); m != nil || e != api.ErrLong {
		t.Errorf("one more: %v", e)
	}
	again := mustThings(t)(full.Assoc(num(7), "seven"))
	if x, _, _ := again.Get(num(7)); x != "seven" || again.Len() != api.MaxLen {
		t.Errorf("another thing: %v, %d keys", x, again.Len())
	}
	if x, _, _ := full.Get(num(7)); x != 7 {
		t.Errorf("the old one: %v", x)
	}
}

// R3: keys are not kept as they are handed in, nor told as they are kept; what is gone over may be left, and gone over again.
func TestThingsMemory(t *testing.T) {
	for _, kind := range []int{0, 3, 32, 40} {
		l := sample.RoomyPairs(model.Nested())
		m := mustThings(t)(champ.NewThings(kind))
		var plain []laid
		for i, p := range l {
			x := &thing{i}
			m = mustThings(t)(m.Assoc(p.Key, x))
			plain = append(plain, laid{model.Nested()[i].Key, x})
		}
		if !sample.SamePairs(l, model.Nested()) || !sample.PairRoomKept(l) {
			t.Errorf("kind %d: changed: %v", kind, l)
		}
		sample.SpoilPairs(l)
		checkThings(t, m, kind, plain)
		for k := range m.All() {
			sample.Spoil(k.Items)
		}
		checkThings(t, m, kind, plain)
		for n := range len(plain) {
			asked := 0
			for range m.All() {
				if asked == n {
					break
				}
				asked++
			}
			if asked != n {
				t.Errorf("kind %d: left at %d, want %d", kind, asked, n)
			}
		}
	}
}
