package split_test

import (
	"testing"

	"spinney/api"
	"spinney/finger"
	"spinney/sample"
	"spinney/split"
)

// nested are items that hold lists, in memory of their own.
func nested(n int) []api.Value {
	var out []api.Value
	for i := range int64(n) {
		out = append(out, list(num(i), list(num(1), str("x"))))
	}
	return out
}

// R3: what is handed in stays as it is, and is not kept.
func TestArgumentsStay(t *testing.T) {
	a := of(t, nested(40))
	plain := []api.Value{list(num(1), list(num(2)))}
	x := sample.Roomy(plain[0])
	w := must(t)(split.Insert(a, 20, x))
	if !sample.RoomKept(x.Items) || !sample.Same(x, plain[0]) {
		t.Errorf("Insert changed what it was given")
	}
	sample.Spoil(x.Items)
	check(t, w, nested(40)[:20], plain, nested(40)[20:])
	check(t, a, nested(40))
}

// R3: writing over what one deque tells changes nothing that another one tells, though they share nodes.
func TestAnswersAreNew(t *testing.T) {
	a := of(t, nested(100))
	head, tail, _ := split.Cut(a, 37)
	light, heavy, _ := split.Heavy(a, 60)
	left, x, _ := split.Remove(a, 50)
	back, round := split.Reverse(a), split.Rotate(a, 30)
	part := must(t)(split.Slice(a, 10, 90))
	whole := must(t)(split.Concat(head, tail))
	more := must(t)(split.Insert(a, 0, num(1)))
	sample.Spoil(x.Items)
	for _, d := range []*finger.Deque{a, head, tail, light, heavy, left, back, round, part, whole, more} {
		sample.Spoil(d.Items())
		i := 0
		for x := range d.All() {
			sample.Spoil(x.Items)
			y, _ := d.At(i)
			sample.Spoil(y.Items)
			i++
		}
		_, x, _ := d.PopFront()
		_, y, _ := d.PopBack()
		_, z, _ := split.Remove(d, 3)
		for _, v := range []api.Value{x, y, z} {
			sample.Spoil(v.Items)
		}
	}
	plain := nested(100)
	check(t, a, plain)
	check(t, head, plain[:37])
	check(t, tail, plain[37:])
	check(t, light, plain[:60])
	check(t, heavy, plain[60:])
	check(t, left, plain[:50], plain[51:])
	check(t, back, turned(plain))
	check(t, round, plain[30:], plain[:30])
	check(t, part, plain[10:90])
	check(t, whole, plain)
	check(t, more, ints(1), plain)
}

// Deques are cut and joined, and places are found, without going over all items. Each item that was copied would take memory anew.
func TestItemsAreNotGoneOver(t *testing.T) {
	const n = 30000
	a, b := of(t, nested(n)), of(t, nested(n))
	one := num(1)
	for name, call := range map[string]func(){
		"Concat": func() { split.Concat(a, b) },
		"Cut":    func() { split.Cut(a, n/2) },
		"Slice":  func() { split.Slice(a, 100, n-100) },
		"Insert": func() { split.Insert(a, n/2, one) },
		"Remove": func() { split.Remove(a, n/2) },
		"Weight": func() { split.Weight(a) },
		"Find":   func() { split.Find(a, n/2) },
		"Heavy":  func() { split.Heavy(a, n/2) },
		"Rotate": func() { split.Rotate(a, n/3) },
	} {
		if times := testing.AllocsPerRun(5, call); times > 500 {
			t.Errorf("%s: memory was taken %v times", name, times)
		}
	}
}

// Reverse and Equal go over all items, but copy none: the same item many times over, as great as a value may be, takes no more memory than one of them.
func TestItemsAreShared(t *testing.T) {
	const n = 1 << 14
	d := of(t, []api.Value{list(sample.Numbers(api.MaxParts - 1)...)})
	for d.Len() < n {
		d = must(t)(split.Concat(d, d))
	}
	var back *finger.Deque
	if times := testing.AllocsPerRun(1, func() { back = split.Reverse(d) }); times > 4*n {
		t.Errorf("Reverse: memory was taken %v times", times)
	}
	if times := testing.AllocsPerRun(1, func() { split.Equal(d, back) }); times > 100 {
		t.Errorf("Equal: memory was taken %v times", times)
	}
	if !split.Equal(d, back) {
		t.Errorf("not equal")
	}
}
