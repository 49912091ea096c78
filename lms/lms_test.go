package lms

import (
	"bytes"
	"crypto/sha256"
	"encoding/hex"
	"math"
	"math/rand"
	"slices"
	"testing"

	"livery/api"
	"livery/lmots"
	"livery/param"
)

// P8.1: all functions with l and o return ErrCode unless both are sets and fit, ahead of all other errors.
func TestNotFit(t *testing.T) {
	check := func(k key) {
		for _, c := range calls() {
			for _, seed := range [][]byte{nil, make([]byte, 24), make([]byte, 32)} {
				for _, q := range []uint32{0, math.MaxUint32} {
					k.seed = seed
					if zero, e := c.result(k, q); e != api.ErrCode || !zero {
						t.Fatalf("%s, %v, %v: %d, zero %v", c.name, k.l, k.o, e, zero)
					}
				}
			}
		}
	}
	for _, l := range lmsSets(t) {
		for _, o := range otsSets(t) {
			if l.N != o.N || l.Shake != o.Shake {
				check(key{l: l, o: o})
				continue
			}
			for _, no := range notLms(l) {
				check(key{l: no, o: o})
			}
			for _, no := range notOts(o) {
				check(key{l: l, o: no})
			}
		}
	}
	check(key{})
}

// P8.1: a seed with other than N bytes is ErrArg, ahead of ErrIndex.
func TestSeedArg(t *testing.T) {
	for _, l := range lmsSets(t) {
		for _, o := range otsSets(t) {
			if !param.Fit(l, o) {
				continue
			}
			for _, n := range []int{0, 1, l.N - 1, l.N + 1, 56 - l.N, 2 * l.N} {
				for _, c := range calls() {
					for _, q := range []uint32{0, 1 << l.H, math.MaxUint32} {
						if zero, e := c.result(key{l: l, o: o, seed: make([]byte, n)}, q); e != api.ErrArg || !zero {
							t.Fatalf("%s, %v, %v, seed of %d bytes: %d, zero %v", c.name, l, o, n, e, zero)
						}
					}
				}
			}
		}
	}
}

// P8.1: a leaf that is not there is ErrIndex.
func TestNoLeaf(t *testing.T) {
	for _, l := range lmsSets(t) {
		for _, o := range otsSets(t) {
			if !param.Fit(l, o) {
				continue
			}
			k := key{l: l, o: o, seed: make([]byte, l.N)}
			for _, q := range []uint32{1 << l.H, 1<<l.H + 1, 1 << 31, math.MaxUint32} {
				for _, c := range calls() {
					if !c.leaf {
						continue
					}
					if zero, e := c.result(k, q); e != api.ErrIndex || !zero {
						t.Fatalf("%s, %v, %v, leaf %d: %d, zero %v", c.name, l, o, q, e, zero)
					}
				}
			}
		}
	}
}

// The chapter's example.
func TestExample(t *testing.T) {
	for _, k := range keys(t, 1) {
		a, e := Leaf(k.l, k.o, k.id, k.seed, 0)
		b, f := Leaf(k.l, k.o, k.id, k.seed, 1)
		if e != api.OK || f != api.OK {
			t.Fatal(e, f)
		}
		root, e := Root(k.l, k.o, k.id, k.seed)
		node, f := Node(k.l, k.id, 1, a, b)
		if e != api.OK || f != api.OK || !bytes.Equal(root, node) {
			t.Errorf("%v, %v: root %x %d, node %x %d", k.l, k.o, root, e, node, f)
		}
		if path, e := Path(k.l, k.o, k.id, k.seed, 0); e != api.OK || !bytes.Equal(path, b) {
			t.Errorf("%v, %v: path %x %d, not %x", k.l, k.o, path, e, b)
		}
	}
}

// P8.1: Leaf, Root and Path, of all leaves.
func TestNodes(t *testing.T) {
	for _, k := range keys(t, 3) {
		nodes := k.refNodes(t)
		if root, e := Root(k.l, k.o, k.id, k.seed); e != api.OK || !bytes.Equal(root, nodes[1]) {
			t.Errorf("%v, %v: root %x %d, not %x", k.l, k.o, root, e, nodes[1])
		}
		for q := range k.leaves() {
			if leaf, e := Leaf(k.l, k.o, k.id, k.seed, uint32(q)); e != api.OK || !bytes.Equal(leaf, nodes[k.leaves()+q]) {
				t.Errorf("%v, %v: leaf %d is %x %d, not %x", k.l, k.o, q, leaf, e, nodes[k.leaves()+q])
			}
			path, e := Path(k.l, k.o, k.id, k.seed, uint32(q))
			if e != api.OK || len(path) != k.l.H*k.l.N || !bytes.Equal(path, k.refPath(nodes, q)) {
				t.Errorf("%v, %v: path of %d is %x %d", k.l, k.o, q, path, e)
			}
		}
	}
}

// P8.1: the leaves of the highest trees, which are too many to compute them all.
func TestHighLeaf(t *testing.T) {
	for _, l := range lmsSets(t) {
		for _, o := range otsSets(t) {
			if !param.Fit(l, o) || l.H < 5 || o.W == 8 {
				continue
			}
			k := key{l: l, o: o, id: [16]byte{15: 1}, seed: make([]byte, l.N)}
			for _, q := range []int{0, k.leaves() - 1} {
				if leaf, e := Leaf(l, o, k.id, k.seed, uint32(q)); e != api.OK || !bytes.Equal(leaf, k.refLeaf(t, q)) {
					t.Errorf("%v, %v: leaf %d is %x %d", l, o, q, leaf, e)
				}
			}
		}
	}
}

// P8.1: Node of each set, for the first and the last inner node.
func TestNode(t *testing.T) {
	draw := rand.New(rand.NewSource(82))
	for _, l := range lmsSets(t) {
		k := key{l: l}
		for _, r := range []int{1, 2, k.leaves() / 2, k.leaves() - 1, 1 + draw.Intn(k.leaves()-1)} {
			if r >= k.leaves() {
				continue
			}
			draw.Read(k.id[:])
			a, b := some(draw, l.N), some(draw, l.N)
			if v, e := Node(l, k.id, uint32(r), a, b); e != api.OK || !bytes.Equal(v, k.refInner(r, a, b)) {
				t.Errorf("%v, node %d: %x %d", l, r, v, e)
			}
		}
	}
}

// P8.1: Node returns ErrArg for a number, or children, that cannot be.
func TestNodeArg(t *testing.T) {
	for _, l := range lmsSets(t) {
		good, first := make([]byte, l.N), uint32(1)<<l.H
		for _, r := range []uint32{0, first, first + 1, 2*first - 1, 1 << 31, math.MaxUint32} {
			if v, e := Node(l, [16]byte{}, r, good, good); e != api.ErrArg || v != nil {
				t.Errorf("%v, node %d: %x %d", l, r, v, e)
			}
		}
		for _, n := range []int{0, 1, l.N - 1, l.N + 1, 56 - l.N, 2 * l.N} {
			bad := make([]byte, n)
			if v, e := Node(l, [16]byte{}, 1, bad, good); e != api.ErrArg || v != nil {
				t.Errorf("%v, %d bytes on the left: %x %d", l, n, v, e)
			}
			if v, e := Node(l, [16]byte{}, 1, good, bad); e != api.ErrArg || v != nil {
				t.Errorf("%v, %d bytes on the right: %x %d", l, n, v, e)
			}
		}
		if v, e := Node(l, [16]byte{}, 1, good[1:], make([]byte, l.N+1)); e != api.ErrArg || v != nil {
			t.Errorf("%v, children of other lengths: %x %d", l, v, e)
		}
	}
}

// P8.1: Node returns ErrCode if l is not a set, ahead of ErrArg.
func TestNodeCode(t *testing.T) {
	for _, l := range lmsSets(t) {
		for _, no := range notLms(l) {
			for _, n := range []int{0, 24, 32} {
				for _, r := range []uint32{0, 1, math.MaxUint32} {
					if v, e := Node(no, [16]byte{}, r, make([]byte, n), make([]byte, n)); e != api.ErrCode || v != nil {
						t.Errorf("%v, node %d, children of %d bytes: %x %d", no, r, n, v, e)
					}
				}
			}
		}
	}
}

// P8.7: from each leaf, its path and Node lead to the root.
func TestPathLeadsToRoot(t *testing.T) {
	for _, k := range keys(t, 4) {
		root, e := Root(k.l, k.o, k.id, k.seed)
		if e != api.OK {
			t.Fatal(e)
		}
		for q := range k.leaves() {
			if k.l.H > 3 && q != 0 && q != 5 && q != k.leaves()-1 {
				continue
			}
			v, e := Leaf(k.l, k.o, k.id, k.seed, uint32(q))
			path, f := Path(k.l, k.o, k.id, k.seed, uint32(q))
			if e != api.OK || f != api.OK {
				t.Fatal(e, f)
			}
			for h := range k.l.H {
				a, b := v, path[h*k.l.N:(h+1)*k.l.N]
				if q>>h&1 == 1 {
					a, b = b, a
				}
				if v, e = Node(k.l, k.id, uint32((k.leaves()+q)>>(h+1)), a, b); e != api.OK {
					t.Fatal(e)
				}
			}
			if !bytes.Equal(v, root) {
				t.Errorf("%v, %v: leaf %d leads to %x, not %x", k.l, k.o, q, v, root)
			}
		}
	}
}

// P8.3, P8.4: Public, and for each leaf Sign, Index and Verify.
func TestSign(t *testing.T) {
	draw := rand.New(rand.NewSource(83))
	for _, k := range keys(t, 3) {
		nodes := k.refNodes(t)
		pub, e := Public(k.l, k.o, k.id, k.seed)
		if e != api.OK || len(pub) != param.LmsPub(k.l) || !bytes.Equal(pub, k.refPublic(nodes)) {
			t.Fatalf("%v, %v: %x %d", k.l, k.o, pub, e)
		}
		for q := range k.leaves() {
			msg := some(draw, draw.Intn(200))
			sig, e := Sign(k.l, k.o, k.id, k.seed, uint32(q), msg)
			if e != api.OK || len(sig) != param.LmsLen(k.l, k.o) || !bytes.Equal(sig, k.refSign(t, nodes, q, msg)) {
				t.Fatalf("%v, %v, leaf %d: %d bytes, %d", k.l, k.o, q, len(sig), e)
			}
			if n, e := Index(sig); e != api.OK || n != uint32(q) {
				t.Errorf("%v, %v, leaf %d: index %d %d", k.l, k.o, q, n, e)
			}
			if e := Verify(pub, msg, sig); e != api.OK {
				t.Errorf("%v, %v, leaf %d: %d", k.l, k.o, q, e)
			}
		}
	}
}

// P8.4: the highest trees of our own, and the lowest ones that are published.
func TestSignHigh(t *testing.T) {
	for _, k := range keys(t, 5) {
		if k.l.H < 4 || (int(k.l.Code)+k.o.W)%3 == 0 {
			continue
		}
		pub, e := Public(k.l, k.o, k.id, k.seed)
		q := uint32(k.leaves()*2/3 - 1)
		sig, f := Sign(k.l, k.o, k.id, k.seed, q, []byte("high"))
		if e != api.OK || f != api.OK {
			t.Fatal(e, f)
		}
		if e := Verify(pub, []byte("high"), sig); e != api.OK {
			t.Errorf("%v, %v, leaf %d: %d", k.l, k.o, q, e)
		}
		if e := Verify(pub, []byte("higher"), sig); e != api.ErrSig {
			t.Errorf("%v, %v, leaf %d, another message: %d", k.l, k.o, q, e)
		}
	}
}

// P8.3: Index is the integer in the first four bytes, whatever follows.
func TestIndex(t *testing.T) {
	for _, c := range []struct {
		sig  string
		want uint32
	}{
		{"00000000", 0}, {"00000001", 1}, {"01020304", 0x01020304}, {"ffffffff", math.MaxUint32}, {"80000000ff", 1 << 31}, {"000000ffffffffffff", 255},
	} {
		sig, _ := hex.DecodeString(c.sig)
		if q, e := Index(sig); e != api.OK || q != c.want {
			t.Errorf("%s: %d %d", c.sig, q, e)
		}
	}
	for _, sig := range [][]byte{nil, {}, {1}, {0, 1}, {255, 255, 255}} {
		if q, e := Index(sig); e != api.ErrSig || q != 0 {
			t.Errorf("%x: %d %d", sig, q, e)
		}
	}
}

// signed is a tree with a signature, to be changed.
type signed struct {
	key
	pub, msg, sig []byte
}

// someSigned are a tree of each family with a signature of leaf 2.
func someSigned(t *testing.T) []signed {
	var all []signed
	for _, k := range keys(t, 2) {
		if k.l.H != 2 || k.o.W != 4 {
			continue
		}
		nodes, msg := k.refNodes(t), []byte("a message")
		s := signed{k, k.refPublic(nodes), msg, k.refSign(t, nodes, 2, msg)}
		if e := Verify(s.pub, s.msg, s.sig); e != api.OK {
			t.Fatal(k.l, k.o, e)
		}
		all = append(all, s)
	}
	if len(all) != 4 {
		t.Fatal(len(all))
	}
	return all
}

// P8.3: Verify returns ErrPub for what is not a public key by its codes and length, ahead of ErrSig.
func TestVerifyPub(t *testing.T) {
	for _, s := range someSigned(t) {
		with := func(lms, ots uint32) []byte { return slices.Concat(u32(lms), u32(ots), s.pub[8:]) }
		l, o := s.l.Code, s.o.Code
		bad := [][]byte{nil, {}, s.pub[:1], s.pub[:4], s.pub[:7], s.pub[:8], s.pub[:23], s.pub[:24], s.pub[:len(s.pub)-1], s.pub[1:],
			append(bytes.Clone(s.pub), 0), append(bytes.Clone(s.pub), make([]byte, 8)...),
			with(0, o), with(4, o), with(25, o), with(api.LmsOwn, o), with(api.LmsOwn+5, o), with(api.XmssOwn+2, o), with(l|1<<15, o), with(math.MaxUint32, o), with(o, l),
			with(l, 0), with(l, 17), with(l, o|1<<31), with(l, math.MaxUint32)}
		for _, pub := range bad {
			for _, sig := range [][]byte{s.sig, nil} {
				if e := Verify(slices.Clip(pub), s.msg, sig); e != api.ErrPub {
					t.Errorf("%v, %v, public key %x: %d", s.l, s.o, pub, e)
				}
			}
		}
	}
}

// P8.3: whatever codes a public key has, it is ErrPub where they do not fit each other and its length, and otherwise ErrSig for a signature by other sets.
func TestVerifyCodes(t *testing.T) {
	for _, s := range someSigned(t) {
		for _, l := range lmsSets(t) {
			for _, o := range otsSets(t) {
				want := api.ErrPub
				if l == s.l && o == s.o {
					want = api.OK
				} else if l.Shake == o.Shake && l.N == o.N && l.N == s.l.N {
					want = api.ErrSig
				}
				if e := Verify(slices.Concat(u32(l.Code), u32(o.Code), s.pub[8:]), s.msg, s.sig); e != want {
					t.Errorf("%v, %v as %v, %v: %d, not %d", s.l, s.o, l, o, e, want)
				}
			}
		}
	}
}

// P8.3: under the public key of another tree a signature is ErrSig.
func TestVerifyOtherTree(t *testing.T) {
	for _, s := range someSigned(t) {
		for at := 8; at < len(s.pub); at++ {
			pub := bytes.Clone(s.pub)
			pub[at] ^= 1 << (at % 8)
			if e := Verify(pub, s.msg, s.sig); e != api.ErrSig {
				t.Errorf("%v, %v, another byte %d: %d", s.l, s.o, at, e)
			}
		}
	}
}

// P8.3: a signature with another length, or for another message, is ErrSig.
func TestVerifyLength(t *testing.T) {
	for _, s := range someSigned(t) {
		bad := [][]byte{nil, {}, s.sig[:3], s.sig[:4], s.sig[:8], s.sig[1:], s.sig[:len(s.sig)-1], s.sig[:len(s.sig)-s.l.N], s.sig[:len(s.sig)-2*s.l.N], s.sig[:len(s.sig)-2*s.l.N-4],
			append(bytes.Clone(s.sig), 0), append(bytes.Clone(s.sig), s.sig[len(s.sig)-s.l.N:]...)}
		for _, sig := range bad {
			if e := Verify(s.pub, s.msg, slices.Clip(sig)); e != api.ErrSig {
				t.Errorf("%v, %v, %d bytes: %d", s.l, s.o, len(sig), e)
			}
		}
		for _, msg := range [][]byte{nil, s.msg[1:], s.msg[:len(s.msg)-1], append(bytes.Clone(s.msg), 0), []byte("A message")} {
			if e := Verify(s.pub, msg, s.sig); e != api.ErrSig {
				t.Errorf("%v, %v, message %q: %d", s.l, s.o, msg, e)
			}
		}
	}
}

// P8.3: a signature in which a byte is changed is ErrSig, wherever that is.
func TestVerifyChanged(t *testing.T) {
	for _, s := range someSigned(t) {
		for at := range s.sig {
			if at > 60 && at < len(s.sig)-60 && at%29 != 0 {
				continue
			}
			sig := bytes.Clone(s.sig)
			sig[at] ^= 1 << (at % 8)
			if e := Verify(s.pub, s.msg, sig); e != api.ErrSig {
				t.Errorf("%v, %v, another byte %d: %d", s.l, s.o, at, e)
			}
		}
	}
}

// P8.3: a leaf that does not exist, or another one, is ErrSig, and so is another set's code.
func TestVerifyParts(t *testing.T) {
	for _, s := range someSigned(t) {
		replaced := func(at int, n uint32) []byte {
			sig := bytes.Clone(s.sig)
			copy(sig[at:], u32(n))
			return sig
		}
		codeAt := 4 + param.OtsLen(s.o)
		bad := [][]byte{replaced(0, 0), replaced(0, 3), replaced(0, 4), replaced(0, 6), replaced(0, 1<<31+2), replaced(0, math.MaxUint32),
			replaced(4, s.o.Code+1), replaced(4, 0), replaced(4, s.l.Code), replaced(4, s.o.Code|1<<24),
			replaced(codeAt, s.l.Code+1), replaced(codeAt, 0), replaced(codeAt, s.o.Code), replaced(codeAt, s.l.Code^1<<31)}
		path := s.sig[codeAt+4:]
		bad = append(bad, slices.Concat(s.sig[:codeAt+4], path[s.l.N:], path[:s.l.N]))
		for i, sig := range bad {
			if e := Verify(s.pub, s.msg, sig); e != api.ErrSig {
				t.Errorf("%v, %v, change %d: %d", s.l, s.o, i, e)
			}
		}
	}
}

// P8.3: a leaf beyond the last one is ErrSig, even if the node that would have its number, and the path, lead to the key in H steps.
func TestVerifyBeyond(t *testing.T) {
	for _, s := range someSigned(t) {
		for _, q := range []uint32{4, 7, 12, 1 << 20} {
			r := 4 + q
			one, e := lmots.Public(s.o, s.id, q, s.seed)
			ots, f := lmots.Sign(s.o, s.id, q, s.seed, s.msg)
			if e != api.OK || f != api.OK {
				t.Fatal(e, f)
			}
			value, zero := refHash(s.l, s.id[:], u32(r), []byte{0x82, 0x82}, one), make([]byte, s.l.N)
			for ; r > q/4+1; r /= 2 {
				if r%2 == 0 {
					value = s.refInner(int(r/2), value, zero)
				} else {
					value = s.refInner(int(r/2), zero, value)
				}
			}
			sig := slices.Concat(u32(q), ots, u32(s.l.Code), zero, zero)
			if e := Verify(slices.Concat(s.pub[:24], value), s.msg, sig); e != api.ErrSig {
				t.Errorf("%v, %v, leaf %d: %d", s.l, s.o, q, e)
			}
		}
	}
}

// P8.3: a one-time signature with another code is ErrSig, even if the key has the root that follows from no one-time key.
func TestVerifyNoCandidate(t *testing.T) {
	for _, s := range someSigned(t) {
		zero := make([]byte, s.l.N)
		leaf := refHash(s.l, s.id[:], u32(4), []byte{0x82, 0x82})
		root := s.refInner(1, s.refInner(2, leaf, zero), zero)
		ots := slices.Concat(u32(s.o.Code+1), s.sig[8:4+param.OtsLen(s.o)])
		sig := slices.Concat(u32(0), ots, u32(s.l.Code), zero, zero)
		if e := Verify(slices.Concat(s.pub[:24], root), s.msg, sig); e != api.ErrSig {
			t.Errorf("%v, %v: %d", s.l, s.o, e)
		}
	}
}

// R6: nil is a message like an empty one.
func TestNil(t *testing.T) {
	for _, s := range someSigned(t) {
		a, e := Sign(s.l, s.o, s.id, s.seed, 1, nil)
		b, f := Sign(s.l, s.o, s.id, s.seed, 1, []byte{})
		if e != api.OK || f != api.OK || !bytes.Equal(a, b) {
			t.Errorf("%v, %v: %d %d", s.l, s.o, e, f)
		}
		if e, f := Verify(s.pub, nil, a), Verify(s.pub, []byte{}, a); e != api.OK || f != api.OK {
			t.Errorf("%v, %v: %d %d", s.l, s.o, e, f)
		}
	}
}

// R3, R4: arguments stay as they are, and results are of no use to what comes later.
func TestMemory(t *testing.T) {
	for _, s := range someSigned(t) {
		a, b := bytes.Repeat([]byte{1}, s.l.N), bytes.Repeat([]byte{2}, s.l.N)
		args := [][]byte{s.seed, s.msg, s.pub, s.sig, a, b}
		var kept [][]byte
		for _, arg := range args {
			kept = append(kept, bytes.Clone(arg))
		}
		calls := []func() []byte{
			func() []byte { r, _ := Leaf(s.l, s.o, s.id, s.seed, 1); return r },
			func() []byte { r, _ := Node(s.l, s.id, 1, a, b); return r },
			func() []byte { r, _ := Root(s.l, s.o, s.id, s.seed); return r },
			func() []byte { r, _ := Path(s.l, s.o, s.id, s.seed, 1); return r },
			func() []byte { r, _ := Public(s.l, s.o, s.id, s.seed); return r },
			func() []byte { r, _ := Sign(s.l, s.o, s.id, s.seed, 1, s.msg); return r },
			func() []byte { return u32(uint32(Verify(s.pub, s.msg, s.sig))) },
			func() []byte { q, _ := Index(s.sig); return u32(q) },
		}
		for i, call := range calls {
			first := call()
			want := bytes.Clone(first)
			for j := range first[:cap(first)] {
				first[:cap(first)][j] ^= 255
			}
			for j := range args {
				if !bytes.Equal(args[j], kept[j]) {
					t.Fatalf("%v, %v, function %d: argument %d is changed", s.l, s.o, i, j)
				}
			}
			if again := call(); !bytes.Equal(again, want) {
				t.Fatalf("%v, %v, function %d: %x, then %x", s.l, s.o, i, want, again)
			}
		}
	}
}

// P8.3: the roots of trees of RFC 8554 (appendix F, test case 2), and of the examples published for the other hashes of SP 800-208.
func TestPublished(t *testing.T) {
	for _, p := range []struct {
		lms, ots       uint32
		id, seed, root string
	}{
		{6, 3, "d08fabd4a2091ff0a8cb4ed834e74534", "558b8966c48ae9cb898b423c83443aae014a72f1b1ab5cc85cf1d892903b5439", "32a58885cd9ba0431235466bff9651c6c92124404d45fa53cf161c28f1ad5a8e"},
		{5, 4, "215f83b7ccb9acbcd08db97b0d04dc2b", "a1c4696e2608035a886100d05cd99945eb3370731884a8235e2fb3d4d71f2547", "a1cd035833e0e90059603f26e07ad2aad152338e7a5e5984bcd5f7bb4eba40b7"},
		{10, 8, "202122232425262728292a2b2c2d2e2f", "000102030405060708090a0b0c0d0e0f1011121314151617", "2c571450aed99cfb4f4ac285da14882796618314508b12d2"},
		{20, 16, "505152535455565758595a5b5c5d5e5f", "303132333435363738393a3b3c3d3e3f4041424344454647", "db54a4509901051c01e26d9990e550347986da87924ff0b1"},
		{15, 12, "808182838485868788898a8b8c8d8e8f", "606162636465666768696a6b6c6d6e6f707172737475767778797a7b7c7d7e7f", "9bb7faee411cae806c16a466c3191a8b65d0ac31932bbf0c2d07c7a4a36379fe"},
	} {
		l, e := param.Lms(p.lms)
		o, f := param.Ots(p.ots)
		if e != api.OK || f != api.OK {
			t.Fatal(e, f)
		}
		id, _ := hex.DecodeString(p.id)
		seed, _ := hex.DecodeString(p.seed)
		root, _ := hex.DecodeString(p.root)
		want := slices.Concat(u32(p.lms), u32(p.ots), id, root)
		if pub, e := Public(l, o, [16]byte(id), seed); e != api.OK || !bytes.Equal(pub, want) {
			t.Errorf("sets %d, %d: %x %d", p.lms, p.ots, pub, e)
		}
	}
}

// P8.3: public keys and signatures that another program made (the LMS of Bouncy Castle 1.72); of each signature its SHA-256.
func TestOtherProgram(t *testing.T) {
	from := func(first uint32, n int) []byte {
		b := make([]byte, n)
		for i := range b {
			b[i] = byte(first) + byte(i)
		}
		return b
	}
	for _, v := range []struct {
		lms, ots, q uint32
		root, sum   string
	}{
		{5, 1, 21, "b68465ecaa0f35e46c8e59e97ca1473a933b285b8c888efce113a39f0f6112cb", "f431697b1bfeb76c9ea4e8c2c75dc2185b1188ede35ddb1f8ec7d8d77a2ea983"},
		{5, 1, 31, "b68465ecaa0f35e46c8e59e97ca1473a933b285b8c888efce113a39f0f6112cb", "9e7453fd99cdb35c37771c02074e7ccd248860d4b49cedfb0c0007ee539bcba3"},
		{5, 2, 21, "69406cb630f280699025f99e692be08f099a8a87867751f0acfb1c8468c8047a", "ad65177227bfc1426089cb07ad89510a2efa19902c91b46ca14192c103a87d59"},
		{5, 2, 31, "69406cb630f280699025f99e692be08f099a8a87867751f0acfb1c8468c8047a", "fa07ccde5021f29192832a00f992110d9c32b3031f142149a97dba9defc09ec3"},
		{5, 3, 0, "b427d292b585af2a36a03244f033728885802d5f60bed21e7ef9295dc7fb993c", "2bd688c7152a77d25b49197455aeb69d7ed0f8ae6c3d9f3b6181ffff45230f1f"},
		{5, 3, 31, "b427d292b585af2a36a03244f033728885802d5f60bed21e7ef9295dc7fb993c", "b6f9b7e7a674090d223ecad870ba55558ec6211cd24730787a8bba7446865b16"},
		{5, 4, 31, "fc836a704013204b1e9beee7de860e8bf9f22725f86788e9750d68bbae84dc24", "21f874bcc4bb0cb34f836f05e5b7c607b34e3300d2891fed5aa374fd00d46d78"},
		{6, 2, 682, "bb1928e78bbecacc1f092a2eb5a8076c6ea92742fbaf095188701ccf77d71061", "8c1fa765b53371eaecc31a9784aefc4fa1c51ab41688a8c2f53bf11d7fbfa211"},
	} {
		l, e := param.Lms(v.lms)
		o, f := param.Ots(v.ots)
		if e != api.OK || f != api.OK {
			t.Fatal(e, f)
		}
		id, seed, msg := [16]byte(from(16*v.ots+v.lms, 16)), from(32*v.lms+7*v.ots, 32), from(v.q, 40*int(v.q%7))
		sig, e := Sign(l, o, id, seed, v.q, msg)
		sum := sha256.Sum256(sig)
		if e != api.OK || hex.EncodeToString(sum[:]) != v.sum {
			t.Errorf("sets %d, %d, leaf %d: %x %d", v.lms, v.ots, v.q, sum, e)
		}
		root, _ := hex.DecodeString(v.root)
		if e := Verify(slices.Concat(u32(v.lms), u32(v.ots), id[:], root), msg, sig); e != api.OK {
			t.Errorf("sets %d, %d, leaf %d: %d", v.lms, v.ots, v.q, e)
		}
	}
}
