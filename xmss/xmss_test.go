package xmss

import (
	"bytes"
	"math"
	"math/rand"
	"slices"
	"testing"

	"livery/api"
	"livery/param"
	"livery/wots"
)

// P11.1 to P11.5: every function returns ErrCode for what is no set, ahead of all other errors.
func TestNotSets(t *testing.T) {
	for _, x := range sets(t) {
		for _, no := range notSets(x) {
			for _, n := range []int{0, 24, 32} {
				b := make([]byte, n)
				for _, i := range []uint32{0, math.MaxUint32} {
					for _, c := range calls() {
						if zero, e := c.result(no, api.XmssKey{Seed: b, Prf: b, Pub: b}, i); e != api.ErrCode || !zero {
							t.Fatalf("%s, %v: %d, zero %v", c.name, no, e, zero)
						}
					}
				}
				if r, e := Node(no, b, api.Adrs{}, b, b); e != api.ErrCode || r != nil {
					t.Fatalf("Node, %v: %x %d", no, r, e)
				}
				if r, e := Ltree(no, b, make([]byte, x.Len*x.N), 0); e != api.ErrCode || r != nil {
					t.Fatalf("Ltree, %v: %x %d", no, r, e)
				}
			}
			for _, n := range []int{0, 3, param.XmssLen(x), 1 << 12} {
				if i, e := Index(no, bytes.Repeat([]byte{1}, n)); e != api.ErrCode || i != 0 {
					t.Fatalf("Index, %v, %d bytes: %d %d", no, n, i, e)
				}
			}
		}
	}
}

// P11.2, P11.3, P11.5: what is no key is ErrArg, whichever of its parts has not N bytes.
func TestNoKey(t *testing.T) {
	for _, x := range sets(t) {
		good := make([]byte, x.N)
		for _, n := range otherSizes(x.N) {
			bad := make([]byte, n)
			for _, k := range []api.XmssKey{{Seed: bad, Prf: good, Pub: good}, {Seed: good, Prf: bad, Pub: good}, {Seed: good, Prf: good, Pub: bad}, {Seed: bad, Prf: bad, Pub: bad}, {}} {
				for _, c := range calls() {
					for _, i := range []uint32{0, 1 << x.H} {
						if zero, e := c.result(x, k, i); e != api.ErrArg || !zero {
							t.Fatalf("%s, %v, %d %d %d bytes: %d, zero %v", c.name, x, len(k.Seed), len(k.Prf), len(k.Pub), e, zero)
						}
					}
				}
			}
		}
	}
}

// P11.2, P11.3: what is no leaf number is ErrArg.
func TestNoLeaf(t *testing.T) {
	for _, x := range sets(t) {
		k := api.XmssKey{Seed: make([]byte, x.N), Prf: make([]byte, x.N), Pub: make([]byte, x.N)}
		for _, i := range []uint32{1 << x.H, 1<<x.H + 1, 1 << 24, 1 << 31, math.MaxUint32} {
			for _, c := range calls() {
				if !c.leaf {
					continue
				}
				if zero, e := c.result(x, k, i); e != api.ErrArg || !zero {
					t.Fatalf("%s, %v, leaf %d: %d, zero %v", c.name, x, i, e, zero)
				}
			}
		}
	}
}

// P11.2, P11.3, P11.6: Leaf, Root, Path, Public, Sign, Index and Verify, for each leaf of the low trees.
func TestTrees(t *testing.T) {
	draw := rand.New(rand.NewSource(115))
	for _, x := range low(t, 3) {
		k := someKey(draw, x.N)
		tree := refTree(t, x, k)
		root := tree[x.H][0]
		if b, e := Root(x, k); e != api.OK || !bytes.Equal(b, root) {
			t.Fatalf("set %#x: root %x %d, not %x", x.Code, b, e, root)
		}
		pub, e := Public(x, k)
		if e != api.OK || len(pub) != param.XmssPub(x) || !bytes.Equal(pub, refPublic(x, k, root)) {
			t.Fatalf("set %#x: public %x %d", x.Code, pub, e)
		}
		for i := range leafCount(x) {
			if b, e := Leaf(x, k, uint32(i)); e != api.OK || !bytes.Equal(b, tree[0][i]) {
				t.Fatalf("set %#x: leaf %d is %x %d, not %x", x.Code, i, b, e, tree[0][i])
			}
			if b, e := Path(x, k, uint32(i)); e != api.OK || len(b) != x.H*x.N || !bytes.Equal(b, refPath(tree, i)) {
				t.Fatalf("set %#x: path of %d is %x %d", x.Code, i, b, e)
			}
			msg := some(draw, []int{0, 1, 31, 1000}[i%4])
			sig, e := Sign(x, k, uint32(i), msg)
			if e != api.OK || len(sig) != param.XmssLen(x) || !bytes.Equal(sig, refSign(t, x, k, root, refPath(tree, i), i, msg)) {
				t.Fatalf("set %#x: signature by %d is %x %d", x.Code, i, sig, e)
			}
			if e := Verify(pub, msg, sig); e != api.OK {
				t.Fatalf("set %#x: signature by %d: %d", x.Code, i, e)
			}
			if index, e := Index(x, sig); e != api.OK || index != uint32(i) {
				t.Fatalf("set %#x: index %d %d, not %d", x.Code, index, e, i)
			}
		}
	}
}

// P11.2, P11.3: the same for our own highest trees, by some of their leaves.
func TestHighestOwn(t *testing.T) {
	draw := rand.New(rand.NewSource(116))
	for _, x := range low(t, 4) {
		if x.H < 4 {
			continue
		}
		k := someKey(draw, x.N)
		tree := refTree(t, x, k)
		for _, i := range []int{0, 6, 15} {
			sig, e := Sign(x, k, uint32(i), nil)
			if e != api.OK || !bytes.Equal(sig, refSign(t, x, k, tree[4][0], refPath(tree, i), i, nil)) {
				t.Fatalf("set %#x: signature by %d is %x %d", x.Code, i, sig, e)
			}
			if e := Verify(refPublic(x, k, tree[4][0]), nil, sig); e != api.OK {
				t.Fatalf("set %#x: signature by %d: %d", x.Code, i, e)
			}
		}
	}
}

// P11.2: the leaves of the high trees, which are too many to compute them all.
func TestHighLeaf(t *testing.T) {
	draw := rand.New(rand.NewSource(117))
	for _, x := range sets(t) {
		k := someKey(draw, x.N)
		for _, i := range []int{0, leafCount(x) - 1, draw.Intn(leafCount(x))} {
			want := refLeaf(t, x, k, i)
			if b, e := Leaf(x, k, uint32(i)); e != api.OK || !bytes.Equal(b, want) {
				t.Errorf("set %#x: leaf %d is %x %d, not %x", x.Code, i, b, e, want)
			}
		}
	}
}

// P11.8: from each leaf, its path and Node lead to the root.
func TestPaths(t *testing.T) {
	draw := rand.New(rand.NewSource(118))
	for _, x := range low(t, 2) {
		k := someKey(draw, x.N)
		root, e := Root(x, k)
		if e != api.OK {
			t.Fatal(e)
		}
		for leaf := range uint32(1) << x.H {
			value, e := Leaf(x, k, leaf)
			if e != api.OK {
				t.Fatal(e)
			}
			path, e := Path(x, k, leaf)
			if e != api.OK {
				t.Fatal(e)
			}
			i := leaf
			for h := range uint32(x.H) {
				left, right := value, path[:x.N]
				if i%2 == 1 {
					left, right = right, left
				}
				i, path = i/2, path[x.N:]
				if value, e = Node(x, k.Pub, api.Adrs{3: api.AdrsTree, 5: h, 6: i}, left, right); e != api.OK {
					t.Fatal(e)
				}
			}
			if !bytes.Equal(value, root) {
				t.Errorf("set %#x, leaf %d: %x, not %x", x.Code, leaf, value, root)
			}
		}
	}
}

// P11.2: a leaf is the L-tree of the chain ends that layer 10 returns.
func TestLeafOfEnds(t *testing.T) {
	draw := rand.New(rand.NewSource(119))
	for _, x := range low(t, 2) {
		k := someKey(draw, x.N)
		for i := range uint32(1) << x.H {
			ends, e := wots.Public(x, k.Seed, k.Pub, api.Adrs{3: api.AdrsOts, 4: i})
			if e != api.OK {
				t.Fatal(e)
			}
			want, e := Ltree(x, k.Pub, ends, i)
			if e != api.OK {
				t.Fatal(e)
			}
			if leaf, e := Leaf(x, k, i); e != api.OK || !bytes.Equal(leaf, want) {
				t.Errorf("set %#x, leaf %d: %x %d, not %x", x.Code, i, leaf, e, want)
			}
		}
	}
}

// P11.3: Prf makes R only, and neither leaves nor the public key.
func TestPrf(t *testing.T) {
	draw := rand.New(rand.NewSource(120))
	for _, x := range low(t, 1) {
		k := someKey(draw, x.N)
		other := k
		other.Prf = some(draw, x.N)
		pub, e := Public(x, k)
		if again, f := Public(x, other); e != api.OK || f != api.OK || !bytes.Equal(pub, again) {
			t.Errorf("set %#x: public %x %d, then %x %d", x.Code, pub, e, again, f)
		}
		sig, e := Sign(x, k, 1, []byte("m"))
		if e != api.OK || !bytes.Equal(sig[4:4+x.N], wots.Prf(x, k.Prf, append(make([]byte, 31), 1))) {
			t.Errorf("set %#x: %x %d", x.Code, sig, e)
		}
		again, e := Sign(x, other, 1, []byte("m"))
		if e != api.OK || bytes.Equal(sig[4:4+x.N], again[4:4+x.N]) || Verify(pub, []byte("m"), again) != api.OK {
			t.Errorf("set %#x: %x %d", x.Code, again, e)
		}
	}
}

// P11.3: Index tells leaf numbers from other ones, whatever else a signature has.
func TestIndex(t *testing.T) {
	draw := rand.New(rand.NewSource(121))
	for _, x := range sets(t) {
		sig := some(draw, param.XmssLen(x))
		for _, i := range []uint32{0, 1, 1<<x.H - 1, uint32(draw.Intn(1 << x.H))} {
			copy(sig, toBytes(int(i), 8)[4:])
			if got, e := Index(x, sig); e != api.OK || got != i {
				t.Errorf("set %#x: index %d %d, not %d", x.Code, got, e, i)
			}
		}
		for _, i := range []uint32{1 << x.H, 1<<x.H + 1, 1 << 24, 1 << 31, math.MaxUint32} {
			copy(sig, toBytes(int(i), 8)[4:])
			if got, e := Index(x, sig); e != api.ErrSig || got != 0 {
				t.Errorf("set %#x, %d: index %d %d", x.Code, i, got, e)
			}
		}
	}
}

// otherLens are numbers of bytes that no signature of x has.
func otherLens(x api.Xms) []int {
	n := param.XmssLen(x)
	return []int{0, 1, 3, 4, 5, 4 + x.N, n - x.N, n - 1, n + 1, n + x.N, 2 * n}
}

// P11.3: Index of what has too few bytes, or too many.
func TestIndexLength(t *testing.T) {
	for _, x := range sets(t) {
		for _, n := range otherLens(x) {
			if i, e := Index(x, make([]byte, n)); e != api.ErrSig || i != 0 {
				t.Errorf("set %#x, %d bytes: %d %d", x.Code, n, i, e)
			}
			if n > 3 {
				if i, e := Index(x, append([]byte{0, 0, 0, 1}, make([]byte, n-4)...)); e != api.ErrSig || i != 0 {
					t.Errorf("set %#x, %d bytes: %d %d", x.Code, n, i, e)
				}
			}
		}
	}
}

// P11.4: Verify of each set, by its first, its last and a drawn leaf.
func TestVerify(t *testing.T) {
	draw := rand.New(rand.NewSource(122))
	for _, x := range sets(t) {
		for _, i := range []int{0, leafCount(x) - 1, draw.Intn(leafCount(x))} {
			msg := some(draw, draw.Intn(100))
			pub, sig := refSigned(t, draw, x, i, msg)
			if e := Verify(pub, msg, sig); e != api.OK {
				t.Errorf("set %#x, leaf %d: %d", x.Code, i, e)
			}
			if e := Verify(pub, append(msg, 0), sig); e != api.ErrSig {
				t.Errorf("set %#x, leaf %d, another message: %d", x.Code, i, e)
			}
		}
	}
}

// flipped returns b with a bit of the byte at that place changed.
func flipped(draw *rand.Rand, b []byte, at int) []byte {
	b = bytes.Clone(b)
	b[at] ^= 1 << draw.Intn(8)
	return b
}

// P11.4: a signature of which any part is changed is ErrSig, and so is one of another message or under another key.
func TestVerifyChanged(t *testing.T) {
	draw := rand.New(rand.NewSource(123))
	for _, x := range slices.Concat(low(t, 2), sets(t)[:2]) {
		msg := some(draw, 20)
		pub, sig := refSigned(t, draw, x, 1, msg)
		refused := func(what string, at int, pub, msg, sig []byte) {
			t.Helper()
			if e := Verify(pub, msg, sig); e != api.ErrSig {
				t.Errorf("set %#x, %s at %d: %d", x.Code, what, at, e)
			}
		}
		for part := range 1 + x.Len + x.H {
			at := 4 + part*x.N + draw.Intn(x.N)
			refused("signature", at, pub, msg, flipped(draw, sig, at))
		}
		for _, at := range []int{0, 1, 2} {
			refused("leaf", at, pub, msg, flipped(draw, sig, at))
		}
		for _, i := range []byte{0, 2, 3, 4, 5, 255} {
			other := bytes.Clone(sig)
			other[3] = i
			refused("leaf", int(i), pub, msg, other)
		}
		for _, at := range []int{4, 3 + x.N, 4 + x.N, len(pub) - 1, 4 + draw.Intn(2*x.N)} {
			refused("key", at, flipped(draw, pub, at), msg, sig)
		}
		for at := range msg {
			refused("message", at, pub, flipped(draw, msg, at), sig)
		}
		refused("no message", 0, pub, nil, sig)
		refused("bytes", 0, pub, msg, append(toBytes(1, 8)[4:], some(draw, len(sig)-4)...))
	}
}

// P11.4: another path, that of a sibling, does not lead to the root.
func TestVerifySides(t *testing.T) {
	draw := rand.New(rand.NewSource(124))
	for _, x := range low(t, 2) {
		if x.H < 2 {
			continue
		}
		k := someKey(draw, x.N)
		tree := refTree(t, x, k)
		pub := refPublic(x, k, tree[2][0])
		for i := range 4 {
			for from := range 4 {
				sig := refSign(t, x, k, tree[2][0], refPath(tree, from), i, []byte("m"))
				want := api.ErrSig
				if i == from {
					want = api.OK
				}
				if e := Verify(pub, []byte("m"), sig); e != want {
					t.Errorf("set %#x, leaf %d, path of %d: %d, not %d", x.Code, i, from, e, want)
				}
			}
		}
	}
}

// P11.4: what is no public key is ErrPub, whether there is a signature or not.
func TestVerifyPub(t *testing.T) {
	draw := rand.New(rand.NewSource(125))
	for _, x := range sets(t) {
		pub, sig := refSigned(t, draw, x, 0, nil)
		refused := func(pub []byte) {
			t.Helper()
			for _, s := range [][]byte{sig, sig[1:], bytes.Repeat([]byte{255}, len(sig)), nil} {
				if e := Verify(pub, nil, s); e != api.ErrPub {
					t.Errorf("set %#x, key %x, %d bytes: %d", x.Code, pub, len(s), e)
				}
			}
		}
		refused(nil)
		for _, n := range []int{0, 1, 2, 3, 4, 5, 4 + x.N, len(pub) - x.N, len(pub) - 1} {
			refused(slices.Clip(pub[:n]))
		}
		refused(append(bytes.Clone(pub), 0))
		refused(append(bytes.Clone(pub), pub...))
		refused(pub[1:])
		for _, code := range []uint32{0, 4, 12, 22, math.MaxUint32, api.LmsOwn + 1, api.XmssOwn, api.XmssOwn + 5, api.XmssOwn + 64} {
			other := bytes.Clone(pub)
			copy(other, toBytes(int(code), 8)[4:])
			refused(other)
		}
		for _, y := range sets(t) {
			other := append(toBytes(int(y.Code), 8)[4:], pub[4:]...)
			if y.N != x.N {
				refused(other)
			} else if e := Verify(other, nil, sig); x != y && e != api.ErrSig {
				t.Errorf("set %#x, code %#x: %d", x.Code, y.Code, e)
			}
		}
	}
}

// P11.4: what Index refuses is ErrSig.
func TestVerifySig(t *testing.T) {
	draw := rand.New(rand.NewSource(126))
	for _, x := range sets(t) {
		pub, sig := refSigned(t, draw, x, 0, nil)
		for _, n := range otherLens(x) {
			if e := Verify(pub, nil, slices.Clip(append(bytes.Clone(sig), sig...)[:n])); e != api.ErrSig {
				t.Errorf("set %#x, %d bytes: %d", x.Code, n, e)
			}
		}
		for _, i := range []uint32{1 << x.H, 1 << 31, math.MaxUint32} {
			other := append(toBytes(int(i), 8)[4:], sig[4:]...)
			if e := Verify(pub, nil, other); e != api.ErrSig {
				t.Errorf("set %#x, leaf %d: %d", x.Code, i, e)
			}
		}
	}
}

// R6: no message is a message without bytes.
func TestNoMessage(t *testing.T) {
	draw := rand.New(rand.NewSource(127))
	for _, x := range low(t, 1) {
		k := someKey(draw, x.N)
		a, e := Sign(x, k, 0, nil)
		b, f := Sign(x, k, 0, []byte{})
		if e != api.OK || f != api.OK || !bytes.Equal(a, b) {
			t.Errorf("set %#x: %x %d, %x %d", x.Code, a, e, b, f)
		}
		pub, e := Public(x, k)
		if e != api.OK || Verify(pub, nil, a) != api.OK || Verify(pub, []byte{}, a) != api.OK {
			t.Errorf("set %#x: refused", x.Code)
		}
	}
}

// R3, R4: arguments stay as they are, results share no memory with them, and the same calls return the same.
func TestMemory(t *testing.T) {
	draw := rand.New(rand.NewSource(128))
	for _, x := range low(t, 2) {
		k, left, ends, msg := someKey(draw, x.N), some(draw, x.N), some(draw, x.Len*x.N), some(draw, 9)
		pub, sig := refSigned(t, draw, x, 1, msg)
		args := [][]byte{k.Seed, k.Prf, k.Pub, left, ends, msg, pub, sig}
		kept := make([][]byte, len(args))
		for i, b := range args {
			kept[i] = bytes.Clone(b)
		}
		for i, f := range []func() ([]byte, api.Errno){
			func() ([]byte, api.Errno) { return Node(x, k.Pub, api.Adrs{}, left, left) },
			func() ([]byte, api.Errno) { return Ltree(x, k.Pub, ends, 1) },
			func() ([]byte, api.Errno) { return Leaf(x, k, 1) },
			func() ([]byte, api.Errno) { return Root(x, k) },
			func() ([]byte, api.Errno) { return Path(x, k, 1) },
			func() ([]byte, api.Errno) { return Public(x, k) },
			func() ([]byte, api.Errno) { return Sign(x, k, 1, msg) },
			func() ([]byte, api.Errno) { return []byte{1}, Verify(pub, msg, sig) },
			func() ([]byte, api.Errno) { i, e := Index(x, sig); return toBytes(int(i), 8), e },
		} {
			first, e := f()
			want := bytes.Clone(first)
			first = first[:cap(first)]
			for j := range first {
				first[j] ^= 255
			}
			for j := range args {
				if !bytes.Equal(args[j], kept[j]) {
					t.Fatalf("set %#x, function %d: argument %d is changed", x.Code, i, j)
				}
			}
			if again, f := f(); e != api.OK || f != api.OK || len(want) == 0 || !bytes.Equal(again, want) {
				t.Fatalf("set %#x, function %d: %x %d, then %x %d", x.Code, i, want, e, again, f)
			}
		}
	}
}
