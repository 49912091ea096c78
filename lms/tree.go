package lms

import (
	"bytes"
	"iter"
	"math/bits"
	"slices"

	"livery/api"
)

// node is a stored node.
type node struct {
	number uint32
	value  []byte // never changed, so that it may be in several lists
}

// Tree is a tree to which leaves are added from left to right.
type Tree struct {
	source source
	count  uint64
	nodes  []node // stored, from left to right
}

// New returns a tree without leaves.
func New(l api.Lms, o api.Ots, id [16]byte, seed []byte) (*Tree, api.Errno) {
	s, e := sourceOf(l, o, id, bytes.Clone(seed))
	if e != api.OK {
		return nil, e
	}
	return &Tree{source: s}, api.OK
}

// Add adds the next leaf.
func (t *Tree) Add() api.Errno {
	if !t.isMade() {
		return api.ErrMade
	}
	if t.isWhole() {
		return api.ErrFull
	}
	number := numberOf(t.source.l, uint32(t.count))
	t.store(node{number, t.source.value(number)})
	t.count++
	return api.OK
}

// Count returns how many leaves were added.
func (t *Tree) Count() uint64 {
	if !t.isMade() {
		return 0
	}
	return t.count
}

// Held returns how many nodes are stored.
func (t *Tree) Held() int {
	if !t.isMade() {
		return 0
	}
	return len(t.nodes)
}

// All iterates over the nodes that are stored now, from left to right, each with its height.
func (t *Tree) All() iter.Seq2[int, []byte] {
	if !t.isMade() {
		return func(func(int, []byte) bool) {}
	}
	top, nodes := t.source.l.H, slices.Clone(t.nodes)
	return func(yield func(int, []byte) bool) {
		for _, n := range nodes {
			if !yield(top-n.depth(), bytes.Clone(n.value)) {
				return
			}
		}
	}
}

// Top returns the value of the root.
func (t *Tree) Top() ([]byte, api.Errno) {
	if !t.isMade() {
		return nil, api.ErrMade
	}
	if !t.isWhole() {
		return nil, api.ErrState
	}
	return bytes.Clone(t.nodes[0].value), api.OK
}

// isMade tells whether New returned t.
func (t *Tree) isMade() bool { return t != nil && t.source.l.H > 0 }

// isWhole tells whether all leaves are present.
func (t *Tree) isWhole() bool { return t.count == uint64(leaves(t.source.l)) }

// store stores n or, where its sibling is stored, the node above both in place of that one, and so on upward.
func (t *Tree) store(n node) {
	kept := len(t.nodes)
merge:
	for i, left := range slices.Backward(t.nodes) {
		if left.number^1 != n.number {
			break merge
		}
		above := n.number / 2
		n = node{above, inner(t.source.o, t.source.id, above, left.value, n.value)}
		kept = i
	}
	clear(t.nodes[kept:])
	t.nodes = append(t.nodes[:kept], n)
}

// depth returns how far below the root a node is.
func (n node) depth() int { return bits.Len32(n.number) - 1 }
