package rrb

import (
	"slices"

	"spinney/api"
	"spinney/value"
)

// The calls of this file are not chapter 11's own: layers above reach vectors by exported functions alone, so what they need of the nodes is done here.

// Join is a vector of the items of all, one behind the other; ErrLong, if they are more than MaxLen.
func Join(l ...*Vec) (*Vec, api.Errno) {
	n := 0
	for _, v := range l {
		n += v.Len()
		if n > api.MaxLen {
			return nil, api.ErrLong
		}
	}
	var top node
	for _, v := range l {
		top = joined(top, v.own().top)
	}
	return &Vec{top: top}, api.OK
}

// First is a vector of the first n items; ErrRange, if there are fewer, or n is below 0.
func (v *Vec) First(n int) (*Vec, api.Errno) {
	if !v.hasEnd(n) {
		return nil, api.ErrRange
	}
	return &Vec{top: first(v.own().top, n)}, api.OK
}

// Rest is a vector of all but the first n items; ErrRange, if there are fewer, or n is below 0.
func (v *Vec) Rest(n int) (*Vec, api.Errno) {
	if !v.hasEnd(n) {
		return nil, api.ErrRange
	}
	if n == v.Len() {
		return New(), api.OK
	}
	return &Vec{top: rest(v.top, n)}, api.OK
}

// Turned is a vector of the items the other way round.
func (v *Vec) Turned() *Vec {
	l := v.kept()
	slices.Reverse(l)
	return &Vec{top: grown(l)}
}

// Same tells whether two vectors have the same items in the same places.
func Same(a, b *Vec) bool { return slices.EqualFunc(a.kept(), b.kept(), value.Equal) }
