package xmss

import (
	"bytes"
	"math"
	"math/rand"
	"testing"

	"livery/api"
)

// P11.1: Node, with an address all words of which are drawn, and the last one ignored.
func TestNode(t *testing.T) {
	draw := rand.New(rand.NewSource(111))
	for _, x := range sets(t) {
		for range 8 {
			seed, left, right := some(draw, x.N), some(draw, x.N), some(draw, x.N)
			var a api.Adrs
			for i := range a {
				a[i] = draw.Uint32()
			}
			want := refNode(x, seed, [7]uint32(a[:7]), left, right)
			for _, last := range []uint32{a[7], 0, 1, 2, 3, math.MaxUint32} {
				a[7] = last
				if got, e := Node(x, seed, a, left, right); e != api.OK || !bytes.Equal(got, want) {
					t.Fatalf("set %#x, address %v: %x %d, not %x", x.Code, a, got, e, want)
				}
			}
		}
	}
}

// P11.1: a node depends on each other word of its address, on its seed, and on both sides.
func TestNodeDepends(t *testing.T) {
	draw := rand.New(rand.NewSource(112))
	for _, x := range low(t, 1) {
		seed, left, right := some(draw, x.N), some(draw, x.N), some(draw, x.N)
		var a api.Adrs
		first, e := Node(x, seed, a, left, right)
		if e != api.OK {
			t.Fatal(e)
		}
		other := func(what string, seed []byte, a api.Adrs, left, right []byte) {
			t.Helper()
			if b, e := Node(x, seed, a, left, right); e != api.OK || len(b) != x.N || bytes.Equal(b, first) {
				t.Errorf("set %#x, %s: %x %d", x.Code, what, b, e)
			}
		}
		for word := range 7 {
			b := a
			b[word]++
			other("another word", seed, b, left, right)
		}
		other("sides exchanged", seed, a, right, left)
		for at := range x.N {
			changed := func(b []byte) []byte {
				c := bytes.Clone(b)
				c[at] ^= 1 << draw.Intn(8)
				return c
			}
			other("another seed", changed(seed), a, left, right)
			other("another left side", seed, a, changed(left), right)
			other("another right side", seed, a, left, changed(right))
		}
	}
}

// P11.1: Node of bytes that are not N.
func TestNodeArg(t *testing.T) {
	for _, x := range sets(t) {
		good := make([]byte, x.N)
		for _, n := range otherSizes(x.N) {
			bad := make([]byte, n)
			for i, l := range [][3][]byte{{bad, good, good}, {good, bad, good}, {good, good, bad}, {bad, bad, bad}} {
				if b, e := Node(x, l[0], api.Adrs{}, l[1], l[2]); e != api.ErrArg || b != nil {
					t.Errorf("set %#x, %d bytes at %d: %x %d", x.Code, n, i, b, e)
				}
			}
		}
		if b, e := Node(x, nil, api.Adrs{}, nil, nil); e != api.ErrArg || b != nil {
			t.Errorf("set %#x, nil: %x %d", x.Code, b, e)
		}
	}
}

// P11.1: Ltree of drawn ends, for any leaf.
func TestLtree(t *testing.T) {
	draw := rand.New(rand.NewSource(113))
	for _, x := range sets(t) {
		for _, leaf := range []uint32{0, 1, 1<<x.H - 1, 1 << x.H, 1 << 31, math.MaxUint32, draw.Uint32()} {
			seed, ends := some(draw, x.N), some(draw, x.Len*x.N)
			want := refLtree(x, seed, ends, leaf)
			if got, e := Ltree(x, seed, ends, leaf); e != api.OK || !bytes.Equal(got, want) {
				t.Fatalf("set %#x, leaf %d: %x %d, not %x", x.Code, leaf, got, e, want)
			}
		}
	}
}

// P11.1: an L-tree depends on each of its ends, the unpaired ones included.
func TestLtreeDepends(t *testing.T) {
	draw := rand.New(rand.NewSource(114))
	for _, x := range low(t, 1) {
		seed, ends := some(draw, x.N), some(draw, x.Len*x.N)
		seen := make(map[string]int)
		for i := range x.Len {
			changed := bytes.Clone(ends)
			changed[i*x.N+draw.Intn(x.N)] ^= 1 << draw.Intn(8)
			b, e := Ltree(x, seed, changed, 5)
			if e != api.OK || len(b) != x.N {
				t.Fatalf("set %#x, end %d: %x %d", x.Code, i, b, e)
			}
			seen[string(b)]++
		}
		b, e := Ltree(x, seed, ends, 5)
		if seen[string(b)]++; e != api.OK || len(seen) != x.Len+1 {
			t.Errorf("set %#x: %d different values, %d", x.Code, len(seen), e)
		}
	}
}

// P11.1: Ltree of seeds that do not have N bytes, and of ends that do not have Len times N.
func TestLtreeArg(t *testing.T) {
	for _, x := range sets(t) {
		seed, ends := make([]byte, x.N), make([]byte, x.Len*x.N)
		for _, n := range otherSizes(x.N) {
			if b, e := Ltree(x, make([]byte, n), ends, 0); e != api.ErrArg || b != nil {
				t.Errorf("set %#x, seed of %d bytes: %x %d", x.Code, n, b, e)
			}
		}
		for _, n := range []int{0, 1, x.N, len(ends) - x.N, len(ends) - 1, len(ends) + 1, len(ends) + x.N, 2 * len(ends), (118 - x.Len) * x.N} {
			if b, e := Ltree(x, seed, make([]byte, n), 0); e != api.ErrArg || b != nil {
				t.Errorf("set %#x, ends of %d bytes: %x %d", x.Code, n, b, e)
			}
		}
	}
}
