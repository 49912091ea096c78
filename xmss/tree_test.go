package xmss

import (
	"bytes"
	"math/bits"
	"math/rand"
	"testing"

	"livery/api"
	"livery/param"
)

// someTree returns a tree with so many leaves.
func someTree(t *testing.T, x api.Xms, k api.XmssKey, leaves int) *Tree {
	t.Helper()
	tree, e := New(x, k)
	if e != api.OK {
		t.Fatal(x, e)
	}
	for range leaves {
		if e := tree.Add(); e != api.OK {
			t.Fatal(x, e)
		}
	}
	return tree
}

// The chapter's example.
func TestExample(t *testing.T) {
	for _, x := range low(t, 2) {
		if x.H != 2 {
			continue
		}
		k := api.XmssKey{Seed: make([]byte, x.N), Prf: make([]byte, x.N), Pub: make([]byte, x.N)}
		if tree := someTree(t, x, k, 3); tree.Held() != 2 {
			t.Errorf("set %#x: %d nodes of 3 leaves", x.Code, tree.Held())
		}
		if tree := someTree(t, x, k, 4); tree.Held() != 1 {
			t.Errorf("set %#x: %d nodes of 4 leaves", x.Code, tree.Held())
		}
	}
}

// P11.5, P11.7: a tree is built leaf by leaf, up to its root.
func TestTree(t *testing.T) {
	draw := rand.New(rand.NewSource(1110))
	for _, x := range low(t, 4) {
		k := someKey(draw, x.N)
		ref := refTree(t, x, k)
		root := ref[x.H][0]
		tree := someTree(t, x, k, 0)
		for n := range leafCount(x) {
			if tree.Leaves() != n || tree.Held() != bits.OnesCount(uint(n)) || tree.Held() > x.H+1 {
				t.Fatalf("set %#x, after %d leaves: leaves %d, held %d", x.Code, n, tree.Leaves(), tree.Held())
			}
			if b, e := tree.Root(); e != api.ErrState || b != nil {
				t.Fatalf("set %#x, after %d leaves: root %x %d", x.Code, n, b, e)
			}
			if e := tree.Add(); e != api.OK {
				t.Fatalf("set %#x, after %d leaves: %d", x.Code, n, e)
			}
		}
		for range 2 {
			if b, e := tree.Root(); e != api.OK || !bytes.Equal(b, root) {
				t.Fatalf("set %#x: root %x %d, not %x", x.Code, b, e, root)
			}
			if tree.Leaves() != leafCount(x) || tree.Held() != 1 {
				t.Fatalf("set %#x: leaves %d, held %d", x.Code, tree.Leaves(), tree.Held())
			}
			if e := tree.Add(); e != api.ErrFull {
				t.Fatalf("set %#x: %d", x.Code, e)
			}
		}
	}
}

// P11.5: the stored nodes are those of the tree, from left to right.
func TestStored(t *testing.T) {
	draw := rand.New(rand.NewSource(1111))
	for _, x := range low(t, 3) {
		k := someKey(draw, x.N)
		ref := refTree(t, x, k)
		for n := range leafCount(x) + 1 {
			first := 0 // the leaf that the next stored node begins with
			for _, s := range someTree(t, x, k, n).nodes.values {
				if i := first >> s.height; i<<s.height != first || !bytes.Equal(s.value, ref[s.height][i]) {
					t.Fatalf("set %#x, after %d leaves, from leaf %d on: height %d, %x", x.Code, n, first, s.height, s.value)
				}
				first += 1 << s.height
			}
			if first != n {
				t.Fatalf("set %#x, after %d leaves: nodes of %d leaves", x.Code, n, first)
			}
		}
	}
}

// P11.7: in the highest trees too, few nodes are stored.
func TestHighTree(t *testing.T) {
	for _, x := range sets(t) {
		if x.H < 10 {
			continue
		}
		tree := someTree(t, x, api.XmssKey{Seed: make([]byte, x.N), Prf: make([]byte, x.N), Pub: make([]byte, x.N)}, 0)
		for n := range 22 {
			if tree.Leaves() != n || tree.Held() != bits.OnesCount(uint(n)) {
				t.Fatalf("set %#x, after %d leaves: leaves %d, held %d", x.Code, n, tree.Leaves(), tree.Held())
			}
			if b, e := tree.Root(); e != api.ErrState || b != nil {
				t.Fatalf("set %#x, after %d leaves: root %x %d", x.Code, n, b, e)
			}
			if e := tree.Add(); e != api.OK {
				t.Fatalf("set %#x, after %d leaves: %d", x.Code, n, e)
			}
		}
	}
}

// P11.5, R5: a tree that New did not make.
func TestNotMade(t *testing.T) {
	var zero Tree
	for range 2 {
		for _, tree := range []*Tree{nil, &zero, new(Tree), {}} {
			if e := tree.Add(); e != api.ErrMade {
				t.Errorf("add: %d", e)
			}
			if b, e := tree.Root(); e != api.ErrMade || b != nil {
				t.Errorf("root: %x %d", b, e)
			}
			if tree.Held() != 0 || tree.Leaves() != 0 {
				t.Errorf("held %d, leaves %d", tree.Held(), tree.Leaves())
			}
		}
	}
}

// R3: a tree keeps neither the key that it was given, nor the root that it returned.
func TestTreeMemory(t *testing.T) {
	draw := rand.New(rand.NewSource(1112))
	for _, x := range low(t, 2) {
		k := someKey(draw, x.N)
		want, e := Root(x, k)
		if e != api.OK {
			t.Fatal(e)
		}
		tree := someTree(t, x, k, 1)
		for _, b := range [][]byte{k.Seed, k.Prf, k.Pub} {
			for i := range b {
				b[i] ^= 255
			}
		}
		for tree.Leaves() < leafCount(x) {
			if e := tree.Add(); e != api.OK {
				t.Fatal(e)
			}
		}
		for range 2 {
			b, e := tree.Root()
			if e != api.OK || !bytes.Equal(b, want) {
				t.Fatalf("set %#x: root %x %d, not %x", x.Code, b, e, want)
			}
			for i := range b {
				b[i] ^= 255
			}
		}
	}
}

// R4: trees that are built in turns do not disturb one another.
func TestTwoTrees(t *testing.T) {
	draw := rand.New(rand.NewSource(1113))
	x, e := param.Xmss(api.XmssOwn + 16 + 3)
	if e != api.OK {
		t.Fatal(e)
	}
	keys := []api.XmssKey{someKey(draw, x.N), someKey(draw, x.N)}
	trees := []*Tree{someTree(t, x, keys[0], 0), someTree(t, x, keys[1], 3)}
	for _, tree := range []int{0, 1, 0, 0, 1, 1, 0, 1, 1, 0, 0, 0, 0} {
		if e := trees[tree].Add(); e != api.OK {
			t.Fatal(e)
		}
	}
	for i, tree := range trees {
		want, e := Root(x, keys[i])
		if root, f := tree.Root(); e != api.OK || f != api.OK || !bytes.Equal(root, want) {
			t.Errorf("tree %d: %x %d, not %x %d", i, root, f, want, e)
		}
	}
}
