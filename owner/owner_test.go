package owner_test

import (
	"fmt"
	"slices"
	"strings"
	"testing"
	"unsafe"

	"spinney/api"
	"spinney/champ"
	"spinney/hset"
	"spinney/model"
	"spinney/owner"
	"spinney/sample"
)

func none() api.Value                   { return api.Value{} }
func num(n int64) api.Value             { return sample.Num(n) }
func str(s string) api.Value            { return sample.Str(s) }
func list(items ...api.Value) api.Value { return sample.List(items...) }
func pair(k, v api.Value) api.Pair      { return api.Pair{Key: k, Val: v} }
func ints(l ...int64) []api.Pair        { return model.Ints(l...) }

// short is what a failing test shows of something that may be long.
func short(x any) string {
	s := fmt.Sprint(x)
	return s[:min(len(s), 200)]
}

// ok is for an error that must be none.
func ok(t *testing.T, e api.Errno) {
	t.Helper()
	if e != api.OK {
		t.Fatalf("%v", e)
	}
}

// must is what came without an error.
func must[C any](c C, e api.Errno) C {
	if e != api.OK {
		panic(e)
	}
	return c
}

// stock are unlike keys; the last two have the same hash.
func stock(s *sample.Source, n int) []api.Value { return append(s.Keys(n), none(), str("")) }

// checkMap asks a map everything, against a plain list of pairs with unlike keys.
func checkMap(t *testing.T, m *champ.Map, kind int, plain []api.Pair) {
	t.Helper()
	if wrong := model.WrongOfMap(m, kind, plain); m == nil || wrong != "" {
		t.Fatalf("%s is wrong: %s of kind %d, want %s of kind %d", wrong, short(m.Pairs()), m.Kind(), short(plain), kind)
	}
}

// checkHeld asks a transient map what it has, against plain pairs, and that it has none of some keys.
func checkHeld(t *testing.T, x *owner.Map, plain []api.Pair, keys []api.Value) {
	t.Helper()
	if n, e := x.Len(); n != len(plain) || e != api.OK {
		t.Fatalf("Len: %d, %v, want %d", n, e, len(plain))
	}
	for _, p := range plain {
		checkGet(t, x, p.Key, p.Val, true)
	}
	for _, k := range keys {
		if model.Find(plain, k) < 0 {
			checkGet(t, x, k, none(), false)
		}
	}
}

func checkGet(t *testing.T, x *owner.Map, k, want api.Value, there bool) {
	t.Helper()
	if v, ok, e := x.Get(k); !sample.Same(v, want) || ok != there || e != api.OK {
		t.Fatalf("Get(%s): %s, %v, %v, want %s, %v", short(k), short(v), ok, e, short(want), there)
	}
}

func checkMany(t *testing.T, x *owner.Map, l []api.Pair, want int, wantError api.Errno) {
	t.Helper()
	if n, e := x.Many(l); n != want || e != wantError {
		t.Fatalf("Many(%s): %d, %v, want %d, %v", short(l), n, e, want, wantError)
	}
}

// checkSealed asks for what every call of a sealed transient map tells, whatever it is given.
func checkSealed(t *testing.T, x *owner.Map) {
	t.Helper()
	if n, e := x.Len(); n != 0 || e != api.ErrSeal {
		t.Errorf("Len: %d, %v", n, e)
	}
	for _, v := range []api.Value{num(1), none(), sample.Bool(2)} {
		if got, there, e := x.Get(v); !sample.Same(got, none()) || there || e != api.ErrSeal {
			t.Errorf("Get(%v): %v, %v, %v", v, got, there, e)
		}
		for _, w := range []api.Value{num(1), sample.Bool(2)} {
			if e := x.Assoc(v, w); e != api.ErrSeal {
				t.Errorf("Assoc(%v, %v): %v", v, w, e)
			}
		}
		if e := x.Dissoc(v); e != api.ErrSeal {
			t.Errorf("Dissoc(%v): %v", v, e)
		}
	}
	for _, l := range [][]api.Pair{nil, {}, ints(1, 2), {pair(sample.Bool(2), none())}, make([]api.Pair, api.MaxLen+1)} {
		checkMany(t, x, l, 0, api.ErrSeal)
	}
	if m, e := x.Seal(); m != nil || e != api.ErrSeal {
		t.Errorf("Seal: %v, %v", m, e)
	}
}

// The chapter's example.
func TestExample(t *testing.T) {
	first := must(champ.Of(0, []api.Pair{pair(num(1), str("a"))}))
	x := owner.Begin(first)
	ok(t, x.Assoc(num(2), str("b")))
	sealed := must(x.Seal())
	checkMap(t, sealed, 0, []api.Pair{pair(num(1), str("a")), pair(num(2), str("b"))})
	checkMap(t, first, 0, []api.Pair{pair(num(1), str("a"))})
	if e := x.Assoc(num(3), str("c")); e != api.ErrSeal {
		t.Errorf("Assoc: %v", e)
	}
	checkSealed(t, x)
	checkMap(t, sealed, 0, []api.Pair{pair(num(1), str("a")), pair(num(2), str("b"))})
}

// 10.1, 10.3: begun and sealed at once.
func TestBegin(t *testing.T) {
	for kind := range api.MaxHash + 1 {
		s := sample.New(uint64(kind))
		plain := model.PutAll(nil, s.Pairs(20, 2))
		m := must(champ.Of(kind, plain))
		x := owner.Begin(m)
		checkHeld(t, x, plain, stock(s, 10))
		checkMap(t, must(x.Seal()), kind, plain)
		checkSealed(t, x)
		empty := owner.Begin(must(champ.New(kind)))
		checkHeld(t, empty, nil, stock(s, 3))
		checkMap(t, must(empty.Seal()), kind, nil)
		checkMap(t, m, kind, plain)
	}
}

// 10.1, R6: a transient of nil is an empty one of kind 0, and so is one of a zero map.
func TestBeginWithNil(t *testing.T) {
	for _, m := range []*champ.Map{nil, {}} {
		x := owner.Begin(m)
		checkHeld(t, x, nil, []api.Value{num(1), none()})
		checkMap(t, must(x.Seal()), 0, nil)
		x = owner.Begin(m)
		ok(t, x.Dissoc(num(1)))
		checkMap(t, must(x.Seal()), 0, nil)
		x = owner.Begin(m)
		ok(t, x.Assoc(num(1), num(2)))
		checkHeld(t, x, ints(1, 2), nil)
		checkMap(t, must(x.Seal()), 0, ints(1, 2))
		x = owner.Begin(m)
		checkMany(t, x, nil, 0, api.OK)
		checkMap(t, must(x.Seal()), 0, nil)
		if x == owner.Begin(m) || m.Len() != 0 {
			t.Errorf("one transient for two, or a map that is not empty any more")
		}
	}
}

// Words: a nil transient is sealed; and so is a zero one.
func TestSealedFromTheFirst(t *testing.T) {
	checkSealed(t, nil)
	checkSealed(t, &owner.Map{})
}

// 10.3: a copy of a transient is that transient, and is sealed with it.
func TestCopyOfATransient(t *testing.T) {
	for _, kind := range []int{0, 32} {
		x := owner.Begin(must(champ.Of(kind, ints(1, 2))))
		copied := *x
		ok(t, x.Assoc(num(3), num(4)))
		ok(t, copied.Assoc(num(5), num(6)))
		checkHeld(t, x, ints(1, 2, 3, 4, 5, 6), nil)
		checkHeld(t, &copied, ints(1, 2, 3, 4, 5, 6), nil)
		sealed := must(copied.Seal())
		checkSealed(t, &copied)
		checkSealed(t, x)
		checkMap(t, sealed, kind, ints(1, 2, 3, 4, 5, 6))
	}
}

// trial is a transient map with what the same steps made of a map and of plain pairs.
type trial struct {
	x     *owner.Map
	m     *champ.Map
	plain []api.Pair
}

// step does one thing to all three, and asks the transient what it has.
func (r *trial) step(t *testing.T, s *sample.Source, keys []api.Value) {
	t.Helper()
	k, v := keys[s.Below(len(keys))], s.Value(2)
	switch s.Below(6) {
	case 0, 1:
		ok(t, r.x.Assoc(k, v))
		r.m, r.plain = must(r.m.Assoc(k, v)), model.Put(r.plain, k, v)
	case 2, 3:
		ok(t, r.x.Dissoc(k))
		r.m, r.plain = must(r.m.Dissoc(k)), model.Drop(r.plain, k)
	case 4:
		if i := model.Find(r.plain, k); i >= 0 {
			ok(t, r.x.Assoc(k, r.plain[i].Val))
		}
	case 5:
		var l []api.Pair
		for range s.Below(4) {
			l = append(l, pair(keys[s.Below(len(keys))], s.Value(1)))
		}
		checkMany(t, r.x, l, len(l), api.OK)
		for _, p := range l {
			r.m, r.plain = must(r.m.Assoc(p.Key, p.Val)), model.Put(r.plain, p.Key, p.Val)
		}
	}
	checkHeld(t, r.x, r.plain, keys)
}

// checkEnd seals the transient: it is what the same steps made of the map.
func (r *trial) checkEnd(t *testing.T, kind int) *champ.Map {
	t.Helper()
	sealed := must(r.x.Seal())
	checkMap(t, sealed, kind, r.plain)
	if !sample.SamePairs(sealed.Pairs(), r.m.Pairs()) || !slices.Equal(sealed.Shape(), r.m.Shape()) {
		t.Fatalf("kind %d: sealed %s, want %s", kind, short(sealed.Pairs()), short(r.m.Pairs()))
	}
	checkSealed(t, r.x)
	return sealed
}

// 10.2, 10.3, 10.5, P7: the same steps of all kinds.
func TestStepsOfAllKinds(t *testing.T) {
	for kind := range api.MaxHash + 1 {
		s := sample.New(uint64(kind))
		keys := stock(s, 12)
		start := must(champ.New(kind))
		var plain []api.Pair
		for range 4 {
			r := trial{owner.Begin(start), start, plain}
			for range 30 {
				r.step(t, s, keys)
			}
			// What was sealed is what the next transient begins with.
			sealed := r.checkEnd(t, kind)
			checkMap(t, start, kind, plain)
			start, plain = sealed, r.plain
		}
	}
}

// 10.6, P3: two transients of one map, and one of what another one sealed, are changed by turns.
func TestNothingElseMoves(t *testing.T) {
	for kind := range api.MaxHash + 1 {
		s := sample.New(uint64(kind))
		keys := stock(s, 12)
		plain := model.PutAll(nil, []api.Pair{pair(keys[0], num(1)), pair(keys[1], num(2)), pair(keys[12], num(3)), pair(keys[13], num(4))})
		m := must(champ.Of(kind, plain))
		trials := []*trial{{owner.Begin(m), m, plain}, {owner.Begin(m), m, plain}}
		type version struct {
			m     *champ.Map
			plain []api.Pair
		}
		versions := []version{{m, plain}}
		for turn := range 60 {
			r := trials[s.Below(len(trials))]
			r.step(t, s, keys)
			for _, other := range trials {
				checkHeld(t, other.x, other.plain, keys)
			}
			if turn%20 == 19 {
				sealed := r.checkEnd(t, kind)
				versions = append(versions, version{sealed, r.plain})
				*r = trial{owner.Begin(sealed), sealed, r.plain}
				trials = append(trials, &trial{owner.Begin(sealed), sealed, r.plain})
			}
		}
		for _, r := range trials {
			r.checkEnd(t, kind)
		}
		for _, v := range versions {
			checkMap(t, v.m, kind, v.plain)
		}
	}
}

// 10.6: what is made of a map by its own calls, and what a transient of it does, leave each other alone.
func TestBesideTheMapsOwnCalls(t *testing.T) {
	for _, kind := range []int{0, 5, 32, 40} {
		m := must(champ.Of(kind, ints(1, 10, 2, 20)))
		x := owner.Begin(m)
		ok(t, x.Assoc(num(3), num(30)))
		other := must(m.Assoc(num(3), num(31)))
		ok(t, x.Dissoc(num(1)))
		less := must(other.Dissoc(num(2)))
		all := m.All()
		for k := range all {
			ok(t, x.Assoc(k, num(0)))
		}
		sealed := must(x.Seal())
		more := must(sealed.Assoc(num(4), num(40)))
		checkMap(t, m, kind, ints(1, 10, 2, 20))
		checkMap(t, other, kind, ints(1, 10, 2, 20, 3, 31))
		checkMap(t, less, kind, ints(1, 10, 3, 31))
		checkMap(t, sealed, kind, ints(1, 0, 2, 0, 3, 30))
		checkMap(t, more, kind, ints(1, 0, 2, 0, 3, 30, 4, 40))
	}
}

// 10.2: Many by hand: stopped at each place, by a wrong key, a wrong value, and both.
func TestMany(t *testing.T) {
	l := ints(3, 30, 1, 11, 3, 31, 4, 40)
	bad := sample.Bool(2)
	for _, kind := range []int{0, 5, 32, 63} {
		for at := range len(l) + 1 {
			for _, p := range []api.Pair{pair(bad, num(1)), pair(num(1), bad), pair(bad, bad)} {
				x := owner.Begin(must(champ.Of(kind, ints(1, 10, 2, 20))))
				checkMany(t, x, slices.Concat(l[:at], []api.Pair{p}, l[at:]), at, api.ErrValue)
				want := model.PutAll(ints(1, 10, 2, 20), l[:at])
				checkHeld(t, x, want, []api.Value{num(3), num(4)})
				checkMany(t, x, nil, 0, api.OK)
				checkMany(t, x, []api.Pair{}, 0, api.OK)
				checkMany(t, x, l[at:], len(l)-at, api.OK)
				checkMap(t, must(x.Seal()), kind, ints(1, 11, 2, 20, 3, 31, 4, 40))
			}
		}
	}
}

// 10.2: MaxLen keys, and one more.
func TestMaxLen(t *testing.T) {
	for _, kind := range []int{0, 32} {
		x := owner.Begin(must(champ.New(kind)))
		all := model.Numbered(0, api.MaxLen, none())
		checkMany(t, x, all[:api.MaxLen/2], api.MaxLen/2, api.OK)
		checkMany(t, x, all, api.MaxLen, api.OK)
		held := func(n int) {
			t.Helper()
			if got, e := x.Len(); got != n || e != api.OK {
				t.Fatalf("kind %d: Len: %d, %v, want %d", kind, got, e, n)
			}
		}
		held(api.MaxLen)
		if e := x.Assoc(num(-1), none()); e != api.ErrLong {
			t.Errorf("kind %d: one more: %v", kind, e)
		}
		checkGet(t, x, num(-1), none(), false)
		ok(t, x.Assoc(num(7), num(70)))
		checkMany(t, x, ints(1, 10, 2, 20, -1, 0, 3, 30), 2, api.ErrLong)
		checkMany(t, x, []api.Pair{pair(num(3), num(30)), pair(num(-1), sample.Bool(2))}, 1, api.ErrValue)
		checkMany(t, x, []api.Pair{pair(num(-1), num(30)), pair(num(-1), sample.Bool(2))}, 0, api.ErrLong)
		held(api.MaxLen)
		ok(t, x.Dissoc(num(9)))
		held(api.MaxLen - 1)
		checkMany(t, x, ints(-1, 5, -1, 6, 9, 0), 2, api.ErrLong)
		held(api.MaxLen)
		copy(all[1:4], ints(1, 10, 2, 20, 3, 30))
		all[7], all[9] = pair(num(7), num(70)), pair(num(-1), num(6))
		checkMap(t, must(x.Seal()), kind, all)
	}
}

// 10.2: a list of MaxLen pairs, of one more, with wrong ones; its length comes ahead of its members.
func TestManyTooLong(t *testing.T) {
	many := slices.Repeat(ints(1, 10, 2, 20), api.MaxLen/2)
	wrong := []api.Pair{pair(sample.Bool(2), none())}
	x := owner.Begin(nil)
	for _, l := range [][]api.Pair{slices.Concat(many, many[:1]), slices.Concat(wrong, many), slices.Concat(many, wrong)} {
		checkMany(t, x, l, 0, api.ErrLong)
		checkHeld(t, x, nil, []api.Value{num(1), num(2)})
	}
	checkMany(t, x, slices.Concat(many[1:], wrong), api.MaxLen-1, api.ErrValue)
	checkHeld(t, x, ints(1, 10, 2, 20), nil)
	checkMany(t, x, many, api.MaxLen, api.OK)
	checkMap(t, must(x.Seal()), 0, ints(1, 10, 2, 20))
}

// 10.2, R1, R4: values that are not right change nothing; of a full map they come ahead of ErrLong.
func TestWrongValues(t *testing.T) {
	full := owner.Begin(must(champ.Of(0, model.Numbered(0, api.MaxLen, none()))))
	for _, w := range sample.Wrongs() {
		x := owner.Begin(must(champ.Of(3, ints(1, 10, 2, 20))))
		for _, held := range []*owner.Map{x, owner.Begin(nil), full} {
			if v, there, e := held.Get(w); !sample.Same(v, none()) || there || e != api.ErrValue {
				t.Errorf("Get(%s): %v, %v, %v", short(w), v, there, e)
			}
			for _, p := range []api.Pair{pair(w, num(1)), pair(num(1), w), pair(num(-1), w), pair(w, w)} {
				if e := held.Assoc(p.Key, p.Val); e != api.ErrValue {
					t.Errorf("Assoc(%s): %v", short(p), e)
				}
				checkMany(t, held, []api.Pair{p, pair(num(1), num(5))}, 0, api.ErrValue)
			}
			if e := held.Dissoc(w); e != api.ErrValue {
				t.Errorf("Dissoc(%s): %v", short(w), e)
			}
		}
		checkHeld(t, x, ints(1, 10, 2, 20), []api.Value{num(-1)})
		checkMap(t, must(x.Seal()), 3, ints(1, 10, 2, 20))
	}
	if n, e := full.Len(); n != api.MaxLen || e != api.OK {
		t.Errorf("Len: %d, %v", n, e)
	}
}

// R3: what is handed in stays as it is, and is not kept.
func TestArgumentsStay(t *testing.T) {
	for _, kind := range []int{0, 3, 32, 40} {
		l := sample.RoomyPairs(model.Nested())
		x, y := owner.Begin(must(champ.New(kind))), owner.Begin(must(champ.New(kind)))
		checkMany(t, x, l, len(l), api.OK)
		for _, p := range l {
			ok(t, y.Assoc(p.Key, p.Val))
		}
		y.Get(l[0].Key)
		ok(t, y.Dissoc(l[0].Key))
		if !sample.SamePairs(l, model.Nested()) || !sample.PairRoomKept(l) {
			t.Errorf("kind %d: changed: %v", kind, l)
		}
		sample.SpoilPairs(l)
		checkHeld(t, x, model.Nested(), nil)
		checkHeld(t, y, model.Nested()[1:], nil)
		checkMap(t, must(x.Seal()), kind, model.Nested())
		checkMap(t, must(y.Seal()), kind, model.Nested()[1:])
	}
}

// R3: writing over an answer changes nothing that is told.
func TestAnswersAreNew(t *testing.T) {
	for _, kind := range []int{0, 3, 32, 40} {
		m := must(champ.Of(kind, model.Nested()))
		x, y := owner.Begin(m), owner.Begin(m)
		ok(t, y.Assoc(num(1), num(2)))
		for _, held := range []*owner.Map{x, y} {
			for _, p := range model.Nested() {
				v, _, _ := held.Get(p.Key)
				sample.Spoil(v.Items)
			}
			checkHeld(t, held, append(model.Nested(), ints(1, 2)...)[:must(held.Len())], nil)
		}
		sealed := must(x.Seal())
		sample.SpoilPairs(sealed.Pairs())
		sample.SpoilPairs(m.Pairs())
		checkMap(t, sealed, kind, model.Nested())
		checkMap(t, m, kind, model.Nested())
		checkMap(t, must(y.Seal()), kind, append(model.Nested(), ints(1, 2)...))
	}
}

// R3
func TestTextsAreNew(t *testing.T) {
	long := strings.Repeat("a", api.MaxText)
	x := owner.Begin(nil)
	ok(t, x.Assoc(str(long), str(long)))
	seen := []*byte{unsafe.StringData(long)}
	look := func(v api.Value) {
		at := unsafe.StringData(v.Text)
		if v.Text != long || slices.Contains(seen, at) {
			t.Errorf("the text is not new memory: %q", v.Text)
		}
		seen = append(seen, at)
	}
	for range 2 {
		v, _, _ := x.Get(str(long))
		look(v)
	}
	p := must(x.Seal()).Pairs()[0]
	look(p.Key)
	look(p.Val)
}

// R2: keys that differ in nil and empty lists alone are the same.
func TestNilAndEmptyLists(t *testing.T) {
	for _, v := range []api.Value{{Kind: api.VList}, {Kind: api.VSet}, {Kind: api.VMap}, {}, num(3), str("a")} {
		w := v
		w.Items = []api.Value{}
		x := owner.Begin(nil)
		ok(t, x.Assoc(v, num(1)))
		ok(t, x.Assoc(w, num(2)))
		checkHeld(t, x, []api.Pair{pair(v, num(2))}, nil)
		ok(t, x.Dissoc(v))
		checkMap(t, must(x.Seal()), 0, nil)
		y := owner.BeginSet(nil)
		ok(t, y.Conj(v))
		ok(t, y.Conj(w))
		checkSet(t, must(y.Seal()), 0, []api.Value{v})
		z := owner.BeginSet(must(hset.Of(0, []api.Value{v})))
		ok(t, z.Disj(w))
		checkSet(t, must(z.Seal()), 0, nil)
	}
}
