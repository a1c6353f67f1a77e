package owner_test

import (
	"slices"
	"strings"
	"testing"
	"unsafe"

	"spinney/api"
	"spinney/hset"
	"spinney/model"
	"spinney/owner"
	"spinney/sample"
)

// numbers are numbers, one by one.
func numbers(l ...int64) []api.Value {
	var out []api.Value
	for _, n := range l {
		out = append(out, num(n))
	}
	return out
}

func has(l []api.Value, v api.Value) bool {
	return slices.ContainsFunc(l, func(w api.Value) bool { return sample.Same(v, w) })
}

// without is a plain list without a member.
func without(l []api.Value, v api.Value) []api.Value {
	return slices.DeleteFunc(slices.Clone(l), func(w api.Value) bool { return sample.Same(v, w) })
}

// checkSet asks a set everything, against a plain list of unlike members.
func checkSet(t *testing.T, s *hset.Set, kind int, plain []api.Value) {
	t.Helper()
	if wrong := model.WrongOfSet(s, kind, plain); s == nil || wrong != "" {
		t.Fatalf("%s is wrong: %s of kind %d, want %s of kind %d", wrong, short(s.Items()), s.Kind(), short(plain), kind)
	}
}

// checkHas asks a transient set what it has, against plain members, and that it has none of some others.
func checkHas(t *testing.T, x *owner.Set, plain, others []api.Value) {
	t.Helper()
	if n, e := x.Len(); n != len(plain) || e != api.OK {
		t.Fatalf("Len: %d, %v, want %d", n, e, len(plain))
	}
	for _, v := range slices.Concat(plain, others) {
		if there, e := x.Has(v); there != has(plain, v) || e != api.OK {
			t.Fatalf("Has(%s): %v, %v, want %v", short(v), there, e, !there)
		}
	}
}

// checkSealedSet asks for what every call of a sealed transient set tells, whatever it is given.
func checkSealedSet(t *testing.T, x *owner.Set) {
	t.Helper()
	if n, e := x.Len(); n != 0 || e != api.ErrSeal {
		t.Errorf("Len: %d, %v", n, e)
	}
	for _, v := range []api.Value{num(1), none(), sample.Bool(2)} {
		if there, e := x.Has(v); there || e != api.ErrSeal {
			t.Errorf("Has(%v): %v, %v", v, there, e)
		}
		if e := x.Conj(v); e != api.ErrSeal {
			t.Errorf("Conj(%v): %v", v, e)
		}
		if e := x.Disj(v); e != api.ErrSeal {
			t.Errorf("Disj(%v): %v", v, e)
		}
	}
	if s, e := x.Seal(); s != nil || e != api.ErrSeal {
		t.Errorf("Seal: %v, %v", s, e)
	}
}

// 10.1, 10.3, 10.4: begun and sealed at once.
func TestBeginSet(t *testing.T) {
	for kind := range api.MaxHash + 1 {
		source := sample.New(uint64(kind))
		plain := stock(source, 12)
		s := must(hset.Of(kind, plain))
		x := owner.BeginSet(s)
		checkHas(t, x, plain, numbers(-1, -2))
		sealed := must(x.Seal())
		checkSet(t, sealed, kind, plain)
		checkSealedSet(t, x)
		empty := owner.BeginSet(must(hset.New(kind)))
		checkHas(t, empty, nil, plain)
		checkSet(t, must(empty.Seal()), kind, nil)
		checkSet(t, s, kind, plain)
	}
}

// 10.1, R6
func TestBeginSetWithNil(t *testing.T) {
	for _, s := range []*hset.Set{nil, {}} {
		x := owner.BeginSet(s)
		checkHas(t, x, nil, numbers(1))
		checkSet(t, must(x.Seal()), 0, nil)
		x = owner.BeginSet(s)
		ok(t, x.Disj(num(1)))
		checkSet(t, must(x.Seal()), 0, nil)
		x = owner.BeginSet(s)
		ok(t, x.Conj(num(1)))
		checkHas(t, x, numbers(1), numbers(2))
		checkSet(t, must(x.Seal()), 0, numbers(1))
		if s.Len() != 0 {
			t.Errorf("%d members of none", s.Len())
		}
	}
}

// Words: a nil transient is sealed; and so is a zero one. A copy of a transient is sealed with it.
func TestSetSealedFromTheFirst(t *testing.T) {
	checkSealedSet(t, nil)
	checkSealedSet(t, &owner.Set{})
	x := owner.BeginSet(must(hset.Of(3, numbers(1))))
	copied := *x
	ok(t, copied.Conj(num(2)))
	checkSet(t, must(x.Seal()), 3, numbers(1, 2))
	checkSealedSet(t, &copied)
}

// setTrial is a transient set with what the same steps made of a set and of plain members.
type setTrial struct {
	x     *owner.Set
	s     *hset.Set
	plain []api.Value
}

// step does one thing to all three, and asks the transient what it has.
func (r *setTrial) step(t *testing.T, source *sample.Source, members []api.Value) {
	t.Helper()
	v := members[source.Below(len(members))]
	if source.Below(2) == 0 {
		ok(t, r.x.Conj(v))
		r.s, r.plain = must(r.s.Conj(v)), append(without(r.plain, v), v)
	} else {
		ok(t, r.x.Disj(v))
		r.s, r.plain = must(r.s.Disj(v)), without(r.plain, v)
	}
	checkHas(t, r.x, r.plain, members)
}

// checkEnd seals the transient: it is what the same steps made of the set.
func (r *setTrial) checkEnd(t *testing.T, kind int) *hset.Set {
	t.Helper()
	sealed := must(r.x.Seal())
	checkSet(t, sealed, kind, r.plain)
	if !sample.SameAll(sealed.Items(), r.s.Items()) || !slices.Equal(sealed.Shape(), r.s.Shape()) {
		t.Fatalf("kind %d: sealed %s, want %s", kind, short(sealed.Items()), short(r.s.Items()))
	}
	checkSealedSet(t, r.x)
	return sealed
}

// 10.4, 10.5, 10.6, P3, P7: two transients of one set, and one of what another one sealed, are changed by turns.
func TestSetStepsOfAllKinds(t *testing.T) {
	type version struct {
		s     *hset.Set
		plain []api.Value
	}
	for kind := range api.MaxHash + 1 {
		source := sample.New(uint64(kind))
		members := stock(source, 10)
		plain := []api.Value{members[0], members[1], members[10], members[11]}
		s := must(hset.Of(kind, plain))
		versions := []version{{s, plain}}
		trials := []*setTrial{{owner.BeginSet(s), s, plain}, {owner.BeginSet(s), s, plain}}
		for turn := range 60 {
			r := trials[source.Below(len(trials))]
			r.step(t, source, members)
			for _, other := range trials {
				checkHas(t, other.x, other.plain, members)
			}
			if turn%20 == 19 {
				sealed := r.checkEnd(t, kind)
				versions = append(versions, version{sealed, r.plain})
				*r = setTrial{owner.BeginSet(sealed), sealed, r.plain}
			}
		}
		for _, r := range trials {
			r.checkEnd(t, kind)
		}
		for _, v := range versions {
			checkSet(t, v.s, kind, v.plain)
		}
	}
}

// 10.4: MaxLen members, and one more.
func TestSetMaxLen(t *testing.T) {
	for _, kind := range []int{0, 32} {
		all := sample.Numbers(api.MaxLen)
		x := owner.BeginSet(must(hset.Of(kind, all[1:])))
		ok(t, x.Conj(num(0)))
		if e := x.Conj(num(-1)); e != api.ErrLong {
			t.Errorf("kind %d: one more: %v", kind, e)
		}
		ok(t, x.Conj(num(7)))
		for _, w := range sample.Wrongs() {
			checkSetErrors(t, x, w)
		}
		if n, e := x.Len(); n != api.MaxLen || e != api.OK {
			t.Errorf("kind %d: Len: %d, %v", kind, n, e)
		}
		ok(t, x.Disj(num(0)))
		ok(t, x.Conj(num(-1)))
		if e := x.Conj(num(0)); e != api.ErrLong {
			t.Errorf("kind %d: one more again: %v", kind, e)
		}
		checkSet(t, must(x.Seal()), kind, append(numbers(-1), all[1:]...))
	}
}

// checkSetErrors asks for what a transient set answers to a value that is not right.
func checkSetErrors(t *testing.T, x *owner.Set, w api.Value) {
	t.Helper()
	if there, e := x.Has(w); there || e != api.ErrValue {
		t.Errorf("Has(%s): %v, %v", short(w), there, e)
	}
	if e := x.Conj(w); e != api.ErrValue {
		t.Errorf("Conj(%s): %v", short(w), e)
	}
	if e := x.Disj(w); e != api.ErrValue {
		t.Errorf("Disj(%s): %v", short(w), e)
	}
}

// 10.4, R1, R4
func TestSetWrongValues(t *testing.T) {
	for _, w := range sample.Wrongs() {
		x := owner.BeginSet(must(hset.Of(32, numbers(1, 2))))
		checkSetErrors(t, x, w)
		checkSetErrors(t, owner.BeginSet(nil), w)
		checkHas(t, x, numbers(1, 2), nil)
		checkSet(t, must(x.Seal()), 32, numbers(1, 2))
	}
}

// R3: what is handed in stays as it is, and is not kept; what is told is new.
func TestSetMemory(t *testing.T) {
	for _, kind := range []int{0, 3, 32, 40} {
		fresh := model.Keys(model.Nested())
		l := sample.RoomyAll(fresh)
		x := owner.BeginSet(must(hset.New(kind)))
		for _, v := range l {
			ok(t, x.Conj(v))
			x.Has(v)
		}
		y := owner.BeginSet(must(hset.Of(kind, l)))
		ok(t, y.Disj(l[0]))
		if !sample.SameAll(l, fresh) || !sample.RoomKept(l) {
			t.Errorf("kind %d: changed: %v", kind, l)
		}
		sample.Spoil(l)
		whole, less := must(x.Seal()), must(y.Seal())
		sample.Spoil(whole.Items())
		checkSet(t, whole, kind, fresh)
		checkSet(t, less, kind, fresh[1:])
	}
}

// R3
func TestSetTextsAreNew(t *testing.T) {
	long := strings.Repeat("a", api.MaxText)
	x := owner.BeginSet(nil)
	ok(t, x.Conj(str(long)))
	if l := must(x.Seal()).Items(); l[0].Text != long || unsafe.StringData(l[0].Text) == unsafe.StringData(long) {
		t.Errorf("the text is not new memory: %q", l[0].Text)
	}
}
