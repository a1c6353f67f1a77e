package owner

import "spinney/api"

// token is what a node is owned by; tokens are told apart by their addresses alone. It is not an empty struct, since two of those may have one address.
type token byte

// node has what a transient is now: a collection that others may have, too, so that it is never changed itself, but another one is laid in its place.
type node[C any] struct {
	owner *token
	now   C
}

// sealed is the state of a transient that was made a collection again.
type sealed struct{}

// transient is a collection that changes, until it is sealed. Its state is its node, or sealed; or nothing, of a zero one.
type transient[C any] struct {
	token *token
	state any
}

func begun[C any](c C) transient[C] {
	t := new(token)
	return transient[C]{token: t, state: &node[C]{owner: t, now: c}}
}

// owned is the node that the transient owns; ErrSeal, if it owns none.
func (t *transient[C]) owned() (*node[C], api.Errno) {
	switch state := t.state.(type) {
	case *node[C]:
		// A copy of a transient is the same one: it owns its node no longer than the other one does.
		if state.owner == t.token {
			return state, api.OK
		}
	case sealed, nil:
	}
	return nil, api.ErrSeal
}

// seal takes the node from its owner, and tells what it has.
func (t *transient[C]) seal(n *node[C]) C {
	n.owner = nil
	// The node is let go, lest a sealed transient keep a collection that nobody asks for any more.
	t.state = sealed{}
	return n.now
}

// become lays what a step made in the place of what the node has, unless there was an error.
func (n *node[C]) become(next C, e api.Errno) api.Errno {
	if e == api.OK {
		n.now = next
	}
	return e
}
