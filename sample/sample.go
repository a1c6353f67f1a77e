// Package sample makes values for the project's tests: always the same ones for the same seed.
package sample

import (
	"slices"

	"spinney/api"
	"spinney/value"
)

// Source is where a test's values come from.
type Source struct {
	state uint64
}

// New is a source; sources of one seed tell the same.
func New(seed uint64) *Source { return &Source{state: seed} }

// Below is a number from 0 to n - 1.
func (s *Source) Below(n int) int {
	s.state = s.state*6364136223846793005 + 1442695040888963407
	return int(s.state>>33) % n
}

// Value is a right value, at most deep levels deep. It comes from a small stock, so that equal ones are met often.
func (s *Source) Value(deep int) api.Value {
	kinds := api.VMap + 1
	if deep == 0 {
		kinds = api.VList
	}
	switch s.Below(kinds) {
	case api.VBool:
		return api.Value{Kind: api.VBool, Num: int64(s.Below(2))}
	case api.VInt:
		return api.Value{Kind: api.VInt, Num: s.number()}
	case api.VStr:
		return api.Value{Kind: api.VStr, Text: s.text()}
	case api.VList:
		v, _ := value.List(s.Values(s.Below(4), deep-1))
		return v
	case api.VSet:
		v, _ := value.Set(s.Values(s.Below(4), deep-1))
		return v
	case api.VMap:
		v, _ := value.Map(s.Pairs(s.Below(4), deep-1))
		return v
	}
	return api.Value{}
}

// Values are n right values.
func (s *Source) Values(n, deep int) []api.Value {
	var out []api.Value
	for range n {
		out = append(out, s.Value(deep))
	}
	return out
}

// Pairs are n pairs of right values.
func (s *Source) Pairs(n, deep int) []api.Pair {
	var out []api.Pair
	for range n {
		out = append(out, api.Pair{Key: s.Value(deep), Val: s.Value(deep)})
	}
	return out
}

// Keys are n right values, no two the same.
func (s *Source) Keys(n int) []api.Value {
	var out []api.Value
	for i := range int64(n) {
		// Each stands by a number of its own, at one depth or another, so that no two are the same.
		switch s.Below(3) {
		case 0:
			out = append(out, Num(i))
		case 1:
			out = append(out, List(s.Value(1), Num(i)))
		case 2:
			out = append(out, Set(Num(i), List(s.Value(1))))
		}
	}
	return out
}

// Shuffled are the same members in another order.
func Shuffled[T any](s *Source, l []T) []T {
	out := slices.Clone(l)
	for i := range out {
		k := s.Below(len(out))
		out[i], out[k] = out[k], out[i]
	}
	return out
}

func (s *Source) number() int64 {
	edges := [...]int64{-1 << 63, 1<<63 - 1, -1 << 31, 1 << 31, 100, -100}
	if s.Below(8) == 0 {
		return edges[s.Below(len(edges))]
	}
	return int64(s.Below(7) - 3)
}

func (s *Source) text() string {
	letters := [...]string{"a", "b", " ", "\"", "\\", "\n", "\t", "\r", "\x00", "\x1f", "\x7f", ";", "é", "€", "𝄞", "\uFFFD"}
	out := ""
	for range s.Below(4) {
		out += letters[s.Below(len(letters))]
	}
	return out
}
