package champ

import (
	"iter"
	"slices"

	"spinney/api"
	"spinney/hash"
	"spinney/rule"
	"spinney/value"
)

const (
	places = 32
	// bottom is the depth at which no bit of a hash is left to tell keys apart.
	bottom = 7
)

// member is a key with what lies under it. Versions of a map share members, so none is changed once it is made.
type member[V any] struct {
	hash uint32
	key  api.Value
	val  V
}

// node is a node of a trie: above the bottom it has members and nodes, at no place both; at the bottom it has members without places alone. Versions of a map share nodes, so none is changed once it is made.
type node[V any] struct {
	members  row[member[V]]
	nodes    row[node[V]]
	unplaced blocks[V]
}

// newMember is a member of a right key, which is in memory of its own.
func newMember[V any](kind int, k api.Value, val V) *member[V] {
	h, _ := hash.Of(kind, k)
	return &member[V]{hash: h, key: rule.Copy(k), val: val}
}

// membersOf are right pairs' members, in natural order; of several pairs of one key the last one's.
func membersOf(kind int, l []api.Pair) []*member[api.Value] {
	var out []*member[api.Value]
	for _, p := range rule.LastOfEach(l, comparePairs) {
		out = append(out, newMember(kind, p.Key, rule.Copy(p.Val)))
	}
	return out
}

func comparePairs(a, b api.Pair) int { return value.Compare(a.Key, b.Key) }

func compareMembers[V any](a, b *member[V]) int { return value.Compare(a.key, b.key) }

// placeOf is the bit of a hash's place at a depth above the bottom.
func placeOf(h uint32, depth int) uint32 {
	place, _ := hash.Group(h, depth)
	return 1 << place
}

// grown is a node of members in natural order, no two of one key, that agree in what the depths above it look at.
func grown[V any](l []*member[V], depth int) *node[V] {
	if depth == bottom {
		return &node[V]{unplaced: blocksOf(l)}
	}
	n := &node[V]{}
	for place, group := range grouped(l, depth) {
		switch len(group) {
		case 0:
		case 1:
			n.members.add(1<<place, group[0])
		default:
			n.nodes.add(1<<place, grown(group, depth+1))
		}
	}
	return n
}

// grouped are members by their places; those of one place keep their order.
func grouped[V any](l []*member[V], depth int) [places][]*member[V] {
	var out [places][]*member[V]
	for _, m := range l {
		place, _ := hash.Group(m.hash, depth)
		out[place] = append(out[place], m)
	}
	return out
}

// find is the member of a key of that hash, nil if there is none.
func (n *node[V]) find(h uint32, k api.Value) *member[V] {
	for depth := range bottom {
		place := placeOf(h, depth)
		below := n.nodes.at(place)
		if below == nil {
			m := n.members.at(place)
			if m == nil || !value.Equal(m.key, k) {
				return nil
			}
			return m
		}
		n = below
	}
	return n.unplaced.find(k)
}

// with is the node with a member, in place of one of the same key.
func (n *node[V]) with(m *member[V], depth int) *node[V] {
	if depth == bottom {
		return &node[V]{unplaced: n.unplaced.with(m)}
	}
	place := placeOf(m.hash, depth)
	if below := n.nodes.at(place); below != nil {
		return n.changed(place, nil, below.with(m, depth+1))
	}
	if old := n.members.at(place); old != nil && !value.Equal(old.key, m.key) {
		both := []*member[V]{old, m}
		slices.SortFunc(both, compareMembers[V])
		return n.changed(place, nil, grown(both, depth+1))
	}
	return n.changed(place, m, nil)
}

// without is the node without one of its members.
func (n *node[V]) without(m *member[V], depth int) *node[V] {
	if depth == bottom {
		return &node[V]{unplaced: n.unplaced.without(m)}
	}
	place := placeOf(m.hash, depth)
	below := n.nodes.at(place)
	if below == nil {
		return n.changed(place, nil, nil)
	}
	rest := below.without(m, depth+1)
	// A node of one key would be another form of what has one form alone.
	if only := rest.only(); only != nil {
		return n.changed(place, only, nil)
	}
	return n.changed(place, nil, rest)
}

// only is the member of a trie that has no other one; else nil.
func (n *node[V]) only() *member[V] {
	var only *member[V]
	for m := range n.all() {
		if only != nil {
			return nil
		}
		only = m
	}
	return only
}

// changed is the node with a member, a node, or (both nil) nothing at a place.
func (n *node[V]) changed(place uint32, m *member[V], below *node[V]) *node[V] {
	return &node[V]{members: n.members.put(place, m), nodes: n.nodes.put(place, below)}
}

// size is how many members a node has, without those of the nodes below it.
func (n *node[V]) size() int { return len(n.members.list) + n.unplaced.size() }

// all goes over the members of a trie, in trie order.
func (n *node[V]) all() iter.Seq[*member[V]] {
	return func(yield func(*member[V]) bool) { n.each(yield) }
}

// each tells whether yield wants to go on.
func (n *node[V]) each(yield func(*member[V]) bool) bool {
	for i := range places {
		place := uint32(1) << i
		if m := n.members.at(place); m != nil && !yield(m) {
			return false
		}
		if below := n.nodes.at(place); below != nil && !below.each(yield) {
			return false
		}
	}
	return n.unplaced.each(yield)
}

// shapes are the shapes of a node and of those below it.
func (n *node[V]) shapes(depth int) []api.Shape {
	out := []api.Shape{{Depth: depth, Data: n.members.places, Nodes: n.nodes.places, Members: n.size()}}
	for _, below := range n.nodes.list {
		out = append(out, below.shapes(depth+1)...)
	}
	return out
}
