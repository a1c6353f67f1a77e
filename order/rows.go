package order

import (
	"cmp"

	"spinney/api"
	"spinney/hash"
	"spinney/rule"
	"spinney/value"
)

// member is a right value with its measure, which is worked out once and not anew each time two members are compared.
type member struct {
	value   api.Value
	measure uint64
}

// row is an order: what it measures of a value, and how two members stand by it.
type row struct {
	measure func(v api.Value) uint64
	compare func(a, b member) int
}

// rows are the orders from 0 to MaxOrder.
func rows() []row {
	return []row{
		{nothing, natural},
		{nothing, turned},
		{fullHash, byMeasure},
		{parts, byMeasure},
		{runes, byKindAndMeasure},
		{distance, byKindAndMeasure},
	}
}

func (r row) measured(v api.Value) member { return member{value: v, measure: r.measure(v)} }

func (r row) measuredAll(l []api.Value) []member {
	out := make([]member, len(l))
	for i, v := range l {
		out[i] = r.measured(v)
	}
	return out
}

// copies are the members' values in memory of their own.
func copies(l []member) []api.Value {
	out := make([]api.Value, len(l))
	for i, m := range l {
		out[i] = rule.Copy(m.value)
	}
	return out
}

func natural(a, b member) int { return value.Compare(a.value, b.value) }

func turned(a, b member) int { return natural(b, a) }

func byMeasure(a, b member) int {
	if c := cmp.Compare(a.measure, b.measure); c != 0 {
		return c
	}
	return natural(a, b)
}

// byKindAndMeasure is for a measure that values of one kind alone have (it is 0 of all others): natural order goes by kinds first.
func byKindAndMeasure(a, b member) int {
	if a.value.Kind != b.value.Kind {
		return natural(a, b)
	}
	return byMeasure(a, b)
}

func nothing(api.Value) uint64 { return 0 }

func fullHash(v api.Value) uint64 {
	h, _ := hash.Full(v)
	return uint64(h)
}

func parts(v api.Value) uint64 {
	n, _ := value.Parts(v)
	return uint64(n)
}

// runes is how many runes a text has: no other right value has a text.
func runes(v api.Value) uint64 {
	var n uint64
	for range v.Text {
		n++
	}
	return n
}

// distance is how far a number is from 0; of two as near natural order has the one below 0 first.
func distance(v api.Value) uint64 {
	switch {
	case v.Kind != api.VInt:
		return 0
	case v.Num < 0:
		// Without a sign, since the least number's distance is greater than any number with one.
		return -uint64(v.Num)
	}
	return uint64(v.Num)
}
