package xmss

import (
	"bytes"

	"livery/api"
)

// stack keeps values, the last of which is the first to be taken.
type stack[T any] struct{ values []T }

// put stores a value.
func (s *stack[T]) put(v T) { s.values = append(s.values, v) }

// last returns the value that was stored last, and whether there is one.
func (s *stack[T]) last() (v T, ok bool) {
	if len(s.values) == 0 {
		return v, false
	}
	return s.values[len(s.values)-1], true
}

// take removes the value that was stored last.
func (s *stack[T]) take() {
	rest := len(s.values) - 1
	clear(s.values[rest:])
	s.values = s.values[:rest]
}

// node is a stored node.
type node struct {
	height int
	value  []byte
}

// Tree is a tree to which leaves are added from left to right.
type Tree struct {
	source source
	leaves uint32
	nodes  stack[node]
}

// New returns a tree without leaves.
func New(x api.Xms, k api.XmssKey) (*Tree, api.Errno) {
	s, e := sourceOf(x, k)
	if e != api.OK {
		return nil, e
	}
	s.key = api.XmssKey{Seed: bytes.Clone(k.Seed), Prf: bytes.Clone(k.Prf), Pub: bytes.Clone(k.Pub)}
	return &Tree{source: s}, api.OK
}

// Add adds the next leaf.
func (t *Tree) Add() api.Errno {
	if !t.isMade() {
		return api.ErrMade
	}
	if t.isWhole() {
		return api.ErrFull
	}
	t.source.store(&t.nodes, t.leaves)
	t.leaves++
	return api.OK
}

// Held returns how many nodes are stored.
func (t *Tree) Held() int {
	if !t.isMade() {
		return 0
	}
	return len(t.nodes.values)
}

// Leaves returns how many leaves were added.
func (t *Tree) Leaves() int {
	if !t.isMade() {
		return 0
	}
	return int(t.leaves)
}

// Root returns the root.
func (t *Tree) Root() ([]byte, api.Errno) {
	if !t.isMade() {
		return nil, api.ErrMade
	}
	if !t.isWhole() {
		return nil, api.ErrState
	}
	root, _ := t.nodes.last()
	return bytes.Clone(root.value), api.OK
}

// isMade tells whether New returned t.
func (t *Tree) isMade() bool { return t != nil && t.source.set.H > 0 }

// isWhole tells whether all leaves were added.
func (t *Tree) isWhole() bool { return t.leaves == leaves(t.source.set) }

// store stores leaf i, whose left neighbours are stored, and combines the last two nodes as long as they have the same height.
func (s source) store(nodes *stack[node], i uint32) {
	right := node{0, s.leaf(i)}
	for {
		left, ok := nodes.last()
		if !ok || left.height != right.height {
			break
		}
		nodes.take()
		height := right.height + 1
		right = node{height, inner(s.set, s.key.Pub, height, i>>height, left.value, right.value)}
	}
	nodes.put(right)
}

// value returns node i of a height.
func (s source) value(height int, i uint32) []byte {
	var nodes stack[node]
	for leaf := range uint32(1) << height {
		s.store(&nodes, i<<height+leaf)
	}
	top, _ := nodes.last()
	return top.value
}
