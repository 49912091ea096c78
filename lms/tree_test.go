package lms

import (
	"bytes"
	"math"
	"math/bits"
	"testing"

	"livery/api"
	"livery/param"
)

// stored is what All yields.
type stored struct {
	height int
	value  []byte
}

func storedOf(t *Tree) []stored {
	var all []stored
	for height, value := range t.All() {
		all = append(all, stored{height, value})
	}
	return all
}

// checkStored tells whether after n leaves those nodes are stored that make up n, the highest first.
func checkStored(t *testing.T, k key, tree *Tree, nodes [][]byte, n int) {
	t.Helper()
	all := storedOf(tree)
	if tree.Count() != uint64(n) || tree.Held() != bits.OnesCount(uint(n)) || tree.Held() > k.l.H+1 || len(all) != tree.Held() {
		t.Fatalf("%v, %v, after %d leaves: count %d, held %d, all %d", k.l, k.o, n, tree.Count(), tree.Held(), len(all))
	}
	first := 0 // the leaf that the next stored node begins with
	for _, s := range all {
		size := 1 << s.height
		if r := (k.leaves() + first) / size; first%size != 0 || !bytes.Equal(s.value, nodes[r]) {
			t.Fatalf("%v, %v, after %d leaves, from leaf %d on, height %d: %x, not %x", k.l, k.o, n, first, s.height, s.value, nodes[r])
		}
		first += size
	}
	if first != n {
		t.Fatalf("%v, %v, after %d leaves: nodes of %d leaves", k.l, k.o, n, first)
	}
}

// P8.2, P8.5, P8.6: a tree is built leaf by leaf, up to its root.
func TestTree(t *testing.T) {
	for _, k := range keys(t, 4) {
		nodes := k.refNodes(t)
		tree, e := New(k.l, k.o, k.id, k.seed)
		if e != api.OK {
			t.Fatal(e)
		}
		for n := range k.leaves() {
			checkStored(t, k, tree, nodes, n)
			if top, e := tree.Top(); e != api.ErrState || top != nil {
				t.Fatalf("%v, %v, after %d leaves: top %x %d", k.l, k.o, n, top, e)
			}
			if e := tree.Add(); e != api.OK {
				t.Fatal(e)
			}
		}
		checkStored(t, k, tree, nodes, k.leaves())
		for range 2 {
			if top, e := tree.Top(); e != api.OK || !bytes.Equal(top, nodes[1]) {
				t.Fatalf("%v, %v: top %x %d, not %x", k.l, k.o, top, e, nodes[1])
			}
			if e := tree.Add(); e != api.ErrFull {
				t.Fatalf("%v, %v: %d", k.l, k.o, e)
			}
			checkStored(t, k, tree, nodes, k.leaves())
		}
		if root, e := Root(k.l, k.o, k.id, k.seed); e != api.OK || !bytes.Equal(root, nodes[1]) {
			t.Errorf("%v, %v: root %x %d, not %x", k.l, k.o, root, e, nodes[1])
		}
	}
}

// P8.5: in the highest trees too, few nodes are stored.
func TestHighTree(t *testing.T) {
	for _, l := range lmsSets(t) {
		if l.H < 10 {
			continue
		}
		for _, o := range otsSets(t) {
			if o.W != 4 || !param.Fit(l, o) {
				continue
			}
			k := key{l: l, o: o, seed: make([]byte, l.N)}
			tree, e := New(k.l, k.o, k.id, k.seed)
			if e != api.OK {
				t.Fatal(e)
			}
			nodes := make(map[int][]byte)
			for n := range 40 {
				if e := tree.Add(); e != api.OK {
					t.Fatal(e)
				}
				r := k.leaves() + n
				for nodes[r] = k.refLeaf(t, n); r%2 == 1; r /= 2 {
					nodes[r/2] = k.refInner(r/2, nodes[r-1], nodes[r])
				}
			}
			all := storedOf(tree)
			if len(all) != 2 || tree.Held() != 2 || tree.Count() != 40 || all[0].height != 5 || all[1].height != 3 ||
				!bytes.Equal(all[0].value, nodes[k.leaves()>>5]) || !bytes.Equal(all[1].value, nodes[(k.leaves()+32)>>3]) {
				t.Errorf("%v, %v: %v", l, o, all)
			}
			if top, e := tree.Top(); e != api.ErrState || top != nil {
				t.Errorf("%v, %v: top %x %d", l, o, top, e)
			}
		}
	}
}

// smallTree is a tree of height 3 with so many leaves.
func smallTree(t *testing.T, leaves int) *Tree {
	l, e := param.Lms(api.LmsOwn + 16 + 3)
	o, f := param.Ots(6)
	if e != api.OK || f != api.OK {
		t.Fatal(e, f)
	}
	tree, e := New(l, o, [16]byte{7}, make([]byte, 24))
	if e != api.OK {
		t.Fatal(e)
	}
	for range leaves {
		if e := tree.Add(); e != api.OK {
			t.Fatal(e)
		}
	}
	return tree
}

// P8.2: the iteration over stored nodes may be stopped at each of them, and begun again.
func TestAllStops(t *testing.T) {
	tree := smallTree(t, 7)
	nodes := tree.All()
	for n := range 4 {
		var heights []int
		for height := range nodes {
			if len(heights) == n {
				break
			}
			heights = append(heights, height)
		}
		if len(heights) != min(n, 3) {
			t.Errorf("stopped after %d: %v", n, heights)
		}
		for i, height := range heights {
			if height != 2-i {
				t.Errorf("stopped after %d: %v", n, heights)
			}
		}
	}
}

// R3: what All returned stays when leaves are added, even amid the iteration.
func TestAllStays(t *testing.T) {
	tree := smallTree(t, 3)
	before, nodes := storedOf(tree), tree.All()
	for range 2 {
		i := 0
		for height, value := range nodes {
			if i >= len(before) || height != before[i].height || !bytes.Equal(value, before[i].value) {
				t.Fatalf("node %d: %d %x", i, height, value)
			}
			if e := tree.Add(); e != api.OK {
				t.Fatal(e)
			}
			i++
		}
		if i != len(before) {
			t.Errorf("%d nodes, not %d", i, len(before))
		}
	}
	if tree.Count() != 7 || tree.Held() != 3 {
		t.Errorf("count %d, held %d", tree.Count(), tree.Held())
	}
}

// R3: results may be changed, and the seed may be changed after New.
func TestTreeMemory(t *testing.T) {
	want := smallTree(t, 8)
	seed := make([]byte, 24)
	tree, e := New(want.source.l, want.source.o, [16]byte{7}, seed)
	if e != api.OK {
		t.Fatal(e)
	}
	for i := range seed {
		seed[i] = 9
	}
	for range 8 {
		if e := tree.Add(); e != api.OK {
			t.Fatal(e)
		}
		nodes := tree.All()
		for _, value := range nodes {
			clear(value[:cap(value)])
		}
		for _, value := range nodes {
			if bytes.Equal(value, make([]byte, 24)) {
				t.Error("a yielded value is that of the iterator")
			}
		}
	}
	a, e := want.Top()
	if e != api.OK {
		t.Fatal(e)
	}
	for range 2 {
		b, e := tree.Top()
		if e != api.OK || !bytes.Equal(a, b) {
			t.Fatalf("%x %d, not %x", b, e, a)
		}
		clear(b[:cap(b)])
	}
	if seed[0] != 9 || seed[23] != 9 {
		t.Error("the seed is changed")
	}
}

// The chapter's ways: nodes that are removed are cleared, so that a tree keeps no more than it stores.
func TestRemovedNodes(t *testing.T) {
	for leaves := range 9 {
		tree := smallTree(t, leaves)
		for _, n := range tree.nodes[len(tree.nodes):cap(tree.nodes)] {
			if n.value != nil || n.number != 0 {
				t.Errorf("after %d leaves, node %d is kept", leaves, n.number)
			}
		}
	}
}

// R4: trees with the same arguments do not disturb each other.
func TestTwoTrees(t *testing.T) {
	a, b := smallTree(t, 5), smallTree(t, 5)
	for range 3 {
		if e := a.Add(); e != api.OK {
			t.Fatal(e)
		}
	}
	if b.Count() != 5 || b.Held() != 2 {
		t.Errorf("count %d, held %d", b.Count(), b.Held())
	}
	for range 3 {
		if e := b.Add(); e != api.OK {
			t.Fatal(e)
		}
	}
	x, e := a.Top()
	y, f := b.Top()
	if e != api.OK || f != api.OK || !bytes.Equal(x, y) {
		t.Errorf("%x %d, %x %d", x, e, y, f)
	}
}

// P8.2, R5: for a tree that this package did not create: ErrMade, 0, nothing.
func TestTreeMade(t *testing.T) {
	for _, tree := range []*Tree{nil, {}, new(Tree)} {
		for range 2 {
			if e := tree.Add(); e != api.ErrMade {
				t.Errorf("add %d", e)
			}
			if top, e := tree.Top(); e != api.ErrMade || top != nil {
				t.Errorf("top %x %d", top, e)
			}
			if tree.Count() != 0 || tree.Held() != 0 {
				t.Errorf("count %d, held %d", tree.Count(), tree.Held())
			}
			for height, value := range tree.All() {
				t.Errorf("node %d %x", height, value)
			}
		}
	}
}

// P8.1, P8.2: New takes every pair that fits, without a leaf being computed.
func TestNew(t *testing.T) {
	for _, l := range lmsSets(t) {
		for _, o := range otsSets(t) {
			if l.N != o.N || l.Shake != o.Shake {
				continue
			}
			tree, e := New(l, o, [16]byte{}, bytes.Repeat([]byte{math.MaxUint8}, l.N))
			if e != api.OK || tree.Count() != 0 || tree.Held() != 0 || len(storedOf(tree)) != 0 {
				t.Errorf("%v, %v: %d", l, o, e)
			}
		}
	}
}
