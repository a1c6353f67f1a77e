package sset_test

import (
	"slices"
	"strings"
	"testing"
	"unsafe"

	"spinney/api"
	"spinney/model"
	"spinney/sample"
	"spinney/sset"
	"spinney/value"
)

// R6: nil sets are empty ones of order 0, and so are zero ones; what is made of them is not nil.
func TestNilSets(t *testing.T) {
	for _, s := range []*sset.Set{nil, {}} {
		check(t, must(t)(s.Conj(num(1))), 0, ints(1))
		check(t, must(t)(s.Disj(num(1))), 0, nil)
		check(t, must(t)(s.Between(num(1), num(2))), 0, nil)
		checkHas(t, s, num(1), false)
		checkRank(t, s, num(1), 0)
		checkEnds(t, s, none(), none(), api.ErrEmpty)
		checkNear(t, "Next", nil, 0)(s.Next(num(1)))
		checkNear(t, "Ahead", nil, 0)(s.Ahead(num(1)))
		if s.Order() != 0 || s.Len() != 0 || s.Height() != 0 || len(s.Items()) != 0 || len(slices.Collect(s.All())) != 0 {
			t.Errorf("%v", s)
		}
		for _, i := range append(sample.Beyond(0), 0) {
			if v, e := s.At(i); e != api.ErrRange || !sample.Same(v, none()) {
				t.Errorf("At(%d): %v, %v", i, v, e)
			}
		}
		if v, e := s.Value(); !sample.Same(v, sample.Set()) || e != api.OK {
			t.Errorf("Value: %v, %v", v, e)
		}
		for _, w := range sample.Wrongs() {
			checkErrors(t, s, w)
		}
		for order := range api.MaxOrder + 1 {
			checkNilWith(t, s, of(t, order, ints(1, 2)))
			checkEqual(t, s, of(t, order, nil), true)
		}
		for _, other := range []*sset.Set{nil, {}} {
			check(t, must(t)(sset.Union(s, other)), 0, nil)
			check(t, sset.Meet(s, other), 0, nil)
			check(t, sset.Less(s, other), 0, nil)
			checkEqual(t, s, other, true)
		}
	}
}

// checkNilWith asks for what is made of a nil set and one of 1 and 2.
func checkNilWith(t *testing.T, s, some *sset.Set) {
	t.Helper()
	check(t, must(t)(sset.Union(s, some)), 0, ints(1, 2))
	check(t, must(t)(sset.Union(some, s)), some.Order(), ints(1, 2))
	check(t, sset.Meet(s, some), 0, nil)
	check(t, sset.Meet(some, s), some.Order(), nil)
	check(t, sset.Less(s, some), 0, nil)
	check(t, sset.Less(some, s), some.Order(), ints(1, 2))
	checkEqual(t, s, some, false)
}

// checkErrors asks for what a set answers to a value that is not right.
func checkErrors(t *testing.T, s *sset.Set, w api.Value) {
	t.Helper()
	if there, e := s.Has(w); there || e != api.ErrValue {
		t.Errorf("Has(%s): %v, %v", short(w), there, e)
	}
	refused(t, api.ErrValue)(s.Conj(w))
	refused(t, api.ErrValue)(s.Disj(w))
	if n, e := s.Rank(w); n != 0 || e != api.ErrValue {
		t.Errorf("Rank(%s): %d, %v", short(w), n, e)
	}
	for _, look := range []func(api.Value) (api.Value, bool, api.Errno){s.Next, s.Ahead} {
		if v, there, e := look(w); !sample.Same(v, none()) || there || e != api.ErrValue {
			t.Errorf("beside %s: %v, %v, %v", short(w), v, there, e)
		}
	}
	for _, ends := range [][2]api.Value{{w, num(1)}, {num(1), w}, {w, w}, {num(9), w}, {w, num(-9)}} {
		refused(t, api.ErrValue)(s.Between(ends[0], ends[1]))
	}
}

// R1, R4: values that are not right; of a full set they come ahead of ErrLong.
func TestWrongValues(t *testing.T) {
	full := of(t, 3, sample.Numbers(api.MaxLen))
	for _, w := range sample.Wrongs() {
		for order := range api.MaxOrder + 1 {
			s := of(t, order, ints(1, 2))
			checkErrors(t, s, w)
			check(t, s, order, ints(1, 2))
			for _, l := range [][]api.Value{{w}, {num(1), num(2), w}, {w, num(1)}, {w, w}, {num(2), num(2), num(1), w}} {
				refused(t, api.ErrValue)(sset.Of(order, l))
			}
		}
		checkErrors(t, full, w)
	}
}

// R1: the order ahead of the list, its length ahead of its members.
func TestWhichErrorComesFirst(t *testing.T) {
	long := slices.Repeat(ints(1), api.MaxLen+1)
	wrong := []api.Value{sample.Bool(2)}
	for _, order := range sample.Beyond(api.MaxOrder) {
		for _, l := range [][]api.Value{nil, {}, ints(1), wrong, long, slices.Concat(long, wrong)} {
			refused(t, api.ErrKind)(sset.Of(order, l))
		}
	}
	for order := range api.MaxOrder + 1 {
		for _, l := range [][]api.Value{long, slices.Concat(wrong, long), slices.Concat(long[1:], wrong)} {
			refused(t, api.ErrLong)(sset.Of(order, l))
		}
		refused(t, api.ErrValue)(sset.Of(order, slices.Concat(long[2:], wrong)))
		check(t, of(t, order, long[1:]), order, ints(1))
	}
}

// nested are members that hold lists.
func nested() []api.Value {
	return []api.Value{list(num(1), list(num(2))), sample.Map(num(1), list(num(5))), sample.Set(num(3), list(num(4)))}
}

// R3: what is handed in stays as it is, and is not kept.
func TestArgumentsStay(t *testing.T) {
	for order := range api.MaxOrder + 1 {
		l := sample.RoomyAll(append(nested(), nested()...))
		s := of(t, order, l)
		u := must(t)(sset.New(order))
		for _, v := range l {
			u = must(t)(u.Conj(v))
			u.Has(v)
			u.Rank(v)
			u.Next(v)
			u.Ahead(v)
			u.Between(v, l[0])
		}
		less := must(t)(u.Disj(l[0]))
		one := must(t)(u.Between(l[1], l[1]))
		if !sample.SameAll(l, append(nested(), nested()...)) || !sample.RoomKept(l) {
			t.Errorf("order %d: changed: %v", order, l)
		}
		sample.Spoil(l)
		check(t, s, order, nested())
		check(t, u, order, nested())
		check(t, less, order, nested()[1:])
		check(t, one, order, nested()[1:2])
	}
}

// R3: a list that is wrong stays as it is, too.
func TestRefusedArgumentsStay(t *testing.T) {
	l := sample.RoomyAll(append(nested(), sample.Bool(2)))
	refused(t, api.ErrValue)(sset.Of(1, l))
	refused(t, api.ErrKind)(sset.Of(-1, l))
	if !sample.SameAll(l, append(nested(), sample.Bool(2))) || !sample.RoomKept(l) {
		t.Errorf("changed: %v", l)
	}
}

// spoil writes over all that a set tells.
func spoil(s *sset.Set) {
	sample.Spoil(s.Items())
	for v := range s.All() {
		sample.Spoil(v.Items)
	}
	first, _ := s.First()
	last, _ := s.Last()
	whole, _ := s.Value()
	for _, v := range []api.Value{first, last, whole} {
		sample.Spoil(v.Items)
	}
	for i := range s.Len() {
		v, _ := s.At(i)
		next, _, _ := s.Next(v)
		ahead, _, _ := s.Ahead(v)
		sample.Spoil(next.Items)
		sample.Spoil(ahead.Items)
		sample.Spoil(v.Items)
	}
}

// R3: writing over an answer changes nothing that is told, of that set, of another version, of what was made of two.
func TestAnswersAreNew(t *testing.T) {
	for order := range api.MaxOrder + 1 {
		s := of(t, order, nested())
		first, _ := s.First()
		last, _ := s.Last()
		other := must(t)(s.Conj(num(1)))
		sets := []version{
			{s, nested()}, {other, append(nested(), num(1))}, {must(t)(sset.Union(s, other)), append(nested(), num(1))},
			{sset.Meet(s, other), nested()}, {sset.Less(s, nil), nested()}, {must(t)(s.Between(first, last)), nested()}, {must(t)(other.Disj(num(1))), nested()},
		}
		items, again := s.Items(), s.Items()
		want := model.InLine(order, nested())
		v, _ := s.Value()
		for _, told := range sets {
			spoil(told.s)
		}
		sample.Spoil(again)
		for _, told := range sets {
			check(t, told.s, order, told.plain)
		}
		if whole, _ := value.Set(nested()); !sample.SameAll(items, want) || !sample.Same(v, whole) {
			t.Errorf("order %d: answers share memory: %v, %v", order, items, v)
		}
	}
}

// R3
func TestTextsAreNew(t *testing.T) {
	long := strings.Repeat("a", api.MaxText)
	seen := []*byte{unsafe.StringData(long)}
	look := func(v api.Value) {
		t.Helper()
		at := unsafe.StringData(v.Text)
		if v.Text != long || slices.Contains(seen, at) {
			t.Errorf("the text is not new memory: %q", v.Text)
		}
		seen = append(seen, at)
	}
	made := of(t, 0, []api.Value{str(long)})
	put := must(t)(must(t)(sset.New(0)).Conj(str(long)))
	for _, told := range []*sset.Set{made, put, sset.Meet(made, put), must(t)(sset.Union(nil, made)), must(t)(made.Between(str(long), str(long)))} {
		for range 2 {
			look(told.Items()[0])
			for v := range told.All() {
				look(v)
			}
			first, _ := told.First()
			last, _ := told.Last()
			at, _ := told.At(0)
			next, _, _ := told.Next(none())
			ahead, _, _ := told.Ahead(list())
			whole, _ := told.Value()
			for _, v := range []api.Value{first, last, at, next, ahead, whole.Items[0]} {
				look(v)
			}
		}
	}
}

// R2: of members that differ in nil and empty lists alone there is one.
func TestNilAndEmptyLists(t *testing.T) {
	for _, v := range []api.Value{{Kind: api.VList}, {Kind: api.VSet}, {Kind: api.VMap}, {}, num(3), str("a")} {
		w := v
		w.Items = []api.Value{}
		for order := range api.MaxOrder + 1 {
			s := of(t, order, []api.Value{v, w})
			check(t, s, order, []api.Value{v})
			checkHas(t, s, w, true)
			checkRank(t, s, w, 0)
			check(t, must(t)(s.Conj(w)), order, []api.Value{v})
			check(t, must(t)(s.Disj(w)), order, nil)
			check(t, must(t)(s.Between(w, w)), order, []api.Value{v})
			checkEqual(t, s, of(t, 1, []api.Value{w}), true)
		}
	}
}
