package bimap

import (
	"spinney/api"
	"spinney/champ"
)

// pair are two hash maps of one kind: one has the other one's keys for values, and its values for keys. (Nil ones are empty, as champ says.)
type pair struct {
	there, back *champ.Map
}

// turned is the pair seen from its other side.
func (p pair) turned() pair { return pair{there: p.back, back: p.there} }

// without is the pair without a right key, and what stands with it; itself, if the key is not there.
func (p pair) without(k api.Value) pair {
	v, there, _ := p.there.Get(k)
	if !there {
		return p
	}
	p.there, _ = p.there.Dissoc(k)
	p.back, _ = p.back.Dissoc(v)
	return p
}

// withoutValue is likewise the pair without a right value.
func (p pair) withoutValue(v api.Value) pair { return p.turned().without(v).turned() }

// with is the pair with a right key and a right value, neither of which it has; ErrLong, if there is no room for them.
func (p pair) with(k, v api.Value) (pair, api.Errno) {
	there, e := p.there.Assoc(k, v)
	if e != api.OK {
		return pair{}, e
	}
	back, _ := p.back.Assoc(v, k)
	return pair{there: there, back: back}, api.OK
}
