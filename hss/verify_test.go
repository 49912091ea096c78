package hss

import (
	"bytes"
	"math"
	"math/rand"
	"slices"
	"testing"

	"livery/api"
)

// signed is a hierarchy with a signature, to be changed.
type signed struct {
	key
	index    int
	pub, msg []byte
	parts    [][]byte
	sig      []byte
}

// someSigned are hierarchies of one to three levels of each family, each with a signature.
func someSigned(t *testing.T) []signed {
	draw := rand.New(rand.NewSource(96))
	var all []signed
	for f := range 4 {
		for _, l := range [][]api.Level{
			{level(f, 2, 4)},
			{level(f, 2, 4), level(f, 1, 2)},
			{level(f, 1, 1), level(f, 2, 2), level(f, 1, 4)},
		} {
			s := signed{key: keyOf(t, draw, l), msg: []byte("a message")}
			s.index = s.count(t) * 2 / 3
			s.pub, s.parts = s.refPublic(t), s.refParts(t, s.index, s.msg)
			s.sig = joined(s.parts)
			checkSig(t, s.pub, s.msg, s.sig, s.index, s.l)
			all = append(all, s)
		}
	}
	return all
}

// checkSig tells whether a signature verifies, with this index and these levels.
func checkSig(t *testing.T, pub, msg, sig []byte, index int, l []api.Level) {
	t.Helper()
	n, e := Index(pub, sig)
	levels, f := Levels(pub, sig)
	if g := Verify(pub, msg, sig); e != api.OK || f != api.OK || g != api.OK || n != uint64(index) || !slices.Equal(levels, l) {
		t.Fatalf("index %d %d, levels %v %d, %d", n, e, levels, f, g)
	}
}

// checkNone tells whether Levels, Index and Verify all return this error, and nothing with it.
func checkNone(t *testing.T, want api.Errno, pub, sig []byte, what string, n int) {
	t.Helper()
	pub, sig = slices.Clip(pub), slices.Clip(sig)
	levels, e := Levels(pub, sig)
	index, f := Index(pub, sig)
	if g := Verify(pub, []byte("a message"), sig); e != want || f != want || g != want || levels != nil || index != 0 {
		t.Errorf("%s %d: levels %v %d, index %d %d, %d", what, n, levels, e, index, f, g)
	}
}

// with returns b with the integer n at a place.
func with(b []byte, at int, n uint32) []byte {
	c := bytes.Clone(b)
	copy(c[at:], u32(n))
	return c
}

// P9.3: a public key that is none by its length is ErrPub, whatever the signature.
func TestPubLength(t *testing.T) {
	for _, s := range someSigned(t) {
		for n := range len(s.pub) {
			checkNone(t, api.ErrPub, s.pub[:n], s.sig, "cut after", n)
			checkNone(t, api.ErrPub, s.pub[:n], nil, "cut, no signature, after", n)
		}
		for _, n := range []int{1, 4, 8, 24, 48} {
			checkNone(t, api.ErrPub, append(bytes.Clone(s.pub), make([]byte, n)...), s.sig, "longer by", n)
		}
		checkNone(t, api.ErrPub, nil, nil, "nothing", 0)
		checkNone(t, api.ErrPub, s.pub[4:], s.sig, "without the number of levels", 0)
		checkNone(t, api.ErrPub, s.pub[4:], s.sig[4:], "both without the number of levels", 0)
	}
}

// P9.3: so is one whose first integer is not from 1 to 8; one of other levels than the signature's is ErrSig.
func TestPubLevels(t *testing.T) {
	for _, s := range someSigned(t) {
		for _, n := range []uint32{0, 9, 10, 255, 256, 1 << 16, 1<<24 + 1, 1 << 31, math.MaxUint32} {
			checkNone(t, api.ErrPub, with(s.pub, 0, n), s.sig, "levels", int(n))
			checkNone(t, api.ErrPub, with(s.pub, 0, n), with(s.sig, 0, n-1), "levels of both", int(n))
			checkNone(t, api.ErrPub, with(s.pub, 0, n), nil, "no signature, levels", int(n))
		}
		for n := range uint32(9) {
			if n > 0 && int(n) != len(s.l) {
				checkNone(t, api.ErrSig, with(s.pub, 0, n), s.sig, "levels of the key", int(n))
				checkNone(t, api.ErrSig, with(s.pub, 0, n), with(s.sig, 0, n-1), "levels of both", int(n))
			}
		}
	}
}

// P9.3: a public key is ErrPub if its codes do not fit each other and its length, and otherwise ErrSig for a signature by other sets.
func TestPubCodes(t *testing.T) {
	for _, s := range someSigned(t) {
		for _, v := range notLevels() {
			checkNone(t, api.ErrPub, slices.Concat(s.pub[:4], u32(v.Lms), u32(v.Ots), s.pub[12:]), s.sig, "no level", int(v.Lms))
			checkNone(t, api.ErrPub, slices.Concat(s.pub[:4], u32(v.Lms), u32(v.Ots), s.pub[12:]), nil, "no level, no signature", int(v.Lms))
		}
		for _, v := range singles(t) {
			l, o := setsFor(t, v)
			first, ots := setsFor(t, s.l[0])
			want := api.ErrSig
			if l.N != first.N {
				want = api.ErrPub
			} else if l.H == first.H && o.W == ots.W && (len(s.l) == 1 || l.Shake == first.Shake) {
				continue // Levels takes these, as the lengths are right
			}
			checkNone(t, want, slices.Concat(s.pub[:4], u32(v.Lms), u32(v.Ots), s.pub[12:]), s.sig, "another level", int(v.Lms))
		}
	}
}

// P9.3: a signature that cannot be split to its end is ErrSig.
func TestSigLength(t *testing.T) {
	for _, s := range someSigned(t) {
		ends := []int{4}
		for _, p := range s.parts {
			ends = append(ends, ends[len(ends)-1]+len(p))
		}
		for n := range len(s.sig) {
			near := slices.ContainsFunc(ends, func(end int) bool { return end-10 <= n && n <= end+10 })
			if near || n%31 == 0 {
				checkNone(t, api.ErrSig, s.pub, s.sig[:n], "cut after", n)
			}
		}
		for _, n := range []int{1, 4, 24, 32, 48, 56} {
			checkNone(t, api.ErrSig, s.pub, append(bytes.Clone(s.sig), make([]byte, n)...), "longer by", n)
		}
		checkNone(t, api.ErrSig, s.pub, slices.Concat(s.sig, s.parts[len(s.parts)-1]), "another part", 0)
		checkNone(t, api.ErrSig, s.pub, s.sig[4:], "without the number of levels", 0)
		checkNone(t, api.ErrSig, s.pub, nil, "nothing", 0)
	}
}

// P9.3: a signature that does not begin with the number of levels minus 1 is ErrSig.
func TestSigLevels(t *testing.T) {
	for _, s := range someSigned(t) {
		for _, n := range []uint32{0, 1, 2, 3, 7, 8, 1 << 8, 1 << 16, 1 << 24, 1<<24 + 1, 1 << 31, math.MaxUint32} {
			if int(n) != len(s.l)-1 {
				checkNone(t, api.ErrSig, s.pub, with(s.sig, 0, n), "levels", int(n))
			}
		}
	}
}

// P9.3: a public key in a signature with codes that are no level's, or those of other lengths, or of another hash, is ErrSig.
func TestSigCodes(t *testing.T) {
	for _, s := range someSigned(t) {
		for i := 1; i < len(s.parts); i += 2 {
			for _, v := range append(notLevels(), singles(t)...) {
				was := s.l[(i+1)/2]
				now := api.Level{Lms: v.Lms, Ots: v.Ots}
				parts := slices.Clone(s.parts)
				parts[i] = slices.Concat(u32(now.Lms), u32(now.Ots), parts[i][8:])
				if now != was {
					checkNone(t, api.ErrSig, s.pub, joined(parts), "another level", int(v.Lms))
				}
			}
		}
	}
}

// P9.3: levels with other hashes are not valid, even if all lengths are right.
func TestSigHashes(t *testing.T) {
	for _, c := range [][]api.Level{
		{level(0, 2, 4), level(2, 2, 4)},
		{level(2, 2, 4), level(0, 2, 4)},
		{level(1, 2, 4), level(3, 1, 8)},
		{level(0, 1, 4), level(1, 1, 4)},
		{level(3, 1, 4), level(3, 1, 4), level(2, 1, 4)},
		{level(1, 1, 4), level(1, 1, 4), level(1, 1, 4), level(3, 1, 4), level(1, 1, 4)},
		{level(0, 25, 8), level(0, 25, 8), level(0, 15, 8)},
		{level(0, 20, 8), level(0, 20, 8), level(0, 20, 8), level(0, 1, 8)},
	} {
		pub, sig := blank(t, c, make([]uint32, len(c)))
		checkNone(t, api.ErrSig, pub, sig, "levels", len(c))
	}
}

// P9.3: more than 8 levels are none, though the signature can be split.
func TestSigTooMany(t *testing.T) {
	for n := 1; n <= 12; n++ {
		l := slices.Repeat([]api.Level{level(3, 1, 8)}, n)
		pub, sig := blank(t, l, make([]uint32, n))
		if n > 8 {
			checkNone(t, api.ErrPub, pub, sig, "levels", n)
			checkNone(t, api.ErrSig, with(pub, 0, 8), sig, "levels as 8", n)
			checkNone(t, api.ErrSig, with(pub, 0, 8), with(sig, 0, 7), "levels as 8 in both", n)
		} else if levels, e := Levels(pub, sig); e != api.OK || !slices.Equal(levels, l) {
			t.Errorf("%d levels: %v %d", n, levels, e)
		}
	}
}

// highs are levels of which no tree can be built here.
func highs() [][]api.Level {
	var all [][]api.Level
	for f := range 4 {
		all = append(all,
			[]api.Level{level(f, 25, 8)},
			[]api.Level{level(f, 25, 8), level(f, 25, 4), level(f, 10, 2)},
			[]api.Level{level(f, 20, 1), level(f, 20, 2), level(f, 20, 4)},
			[]api.Level{level(f, 1, 4), level(f, 25, 4), level(f, 3, 8), level(f, 15, 1)},
			[]api.Level{level(f, 10, 8), level(f, 10, 8), level(f, 10, 8), level(f, 10, 8), level(f, 5, 8), level(f, 5, 8), level(f, 5, 8), level(f, 5, 8)})
	}
	return all
}

// P9.3: Levels and Index look at the public keys and the leaves alone; what does not verify is ErrSig.
func TestLevelsIndex(t *testing.T) {
	draw := rand.New(rand.NewSource(97))
	for _, l := range highs() {
		n, e := Count(l)
		if e != api.OK {
			t.Fatal(l, e)
		}
		for _, index := range []uint64{0, 1, n / 2, n - 1, draw.Uint64() % n} {
			q, e := Split(l, index)
			if e != api.OK {
				t.Fatal(l, e)
			}
			pub, sig := blank(t, l, q)
			levels, e := Levels(pub, sig)
			again, f := Index(pub, sig)
			if e != api.OK || f != api.OK || !slices.Equal(levels, l) || again != index {
				t.Errorf("%v, index %d: levels %v %d, index %d %d", l, index, levels, e, again, f)
			}
			if e := Verify(pub, nil, sig); e != api.ErrSig {
				t.Errorf("%v, index %d: %d", l, index, e)
			}
		}
	}
}

// P9.3: a leaf that does not exist in its tree is ErrSig for Index and Verify, but not for Levels.
func TestNoLeaf(t *testing.T) {
	for _, l := range append(highs(), []api.Level{level(0, 1, 4)}, []api.Level{level(1, 2, 4), level(1, 3, 4)}) {
		for i, v := range l {
			set, _ := setsFor(t, v)
			for _, no := range []uint32{1 << set.H, 1<<set.H + 1, 1 << 31, math.MaxUint32} {
				q := make([]uint32, len(l))
				q[i] = no
				pub, sig := blank(t, l, q)
				if levels, e := Levels(pub, sig); e != api.OK || !slices.Equal(levels, l) {
					t.Errorf("%v, leaves %v: levels %v %d", l, q, levels, e)
				}
				if index, e := Index(pub, sig); e != api.ErrSig || index != 0 {
					t.Errorf("%v, leaves %v: index %d %d", l, q, index, e)
				}
				if e := Verify(pub, nil, sig); e != api.ErrSig {
					t.Errorf("%v, leaves %v: %d", l, q, e)
				}
			}
		}
	}
}

// P9.3: a signature or a public key in which a byte is changed does not verify, wherever that is.
func TestChanged(t *testing.T) {
	for _, s := range someSigned(t) {
		for at := range s.sig {
			if at > 60 && at < len(s.sig)-60 && at%37 != 0 {
				continue
			}
			sig := bytes.Clone(s.sig)
			sig[at] ^= 1 << (at % 8)
			if e := Verify(s.pub, s.msg, sig); e != api.ErrSig {
				t.Errorf("%v, another byte %d: %d", s.l, at, e)
			}
		}
		for at := 12; at < len(s.pub); at++ {
			pub := bytes.Clone(s.pub)
			pub[at] ^= 1 << (at % 8)
			if e := Verify(pub, s.msg, s.sig); e != api.ErrSig {
				t.Errorf("%v, another byte %d of the public key: %d", s.l, at, e)
			}
		}
		for _, msg := range [][]byte{nil, s.msg[1:], append(bytes.Clone(s.msg), 0), []byte("A message"), s.pub} {
			if e := Verify(s.pub, msg, s.sig); e != api.ErrSig {
				t.Errorf("%v, message %q: %d", s.l, msg, e)
			}
		}
	}
}

// P9.3: each public key must be signed by the one above it: what another hierarchy signed does not verify, from whatever level on.
func TestSpliced(t *testing.T) {
	for _, s := range someSigned(t) {
		other := s.key
		other.seed = bytes.Repeat([]byte{7}, len(s.seed))
		parts := other.refParts(t, s.index, s.msg)
		for i := range parts {
			sig := joined(slices.Concat(s.parts[:i], parts[i:]))
			if e := Verify(s.pub, s.msg, sig); e != api.ErrSig {
				t.Errorf("%v, from part %d on: %d", s.l, i, e)
			}
			sig = joined(slices.Concat(s.parts[:i], parts[i:i+1], s.parts[i+1:]))
			if e := Verify(s.pub, s.msg, sig); e != api.ErrSig {
				t.Errorf("%v, part %d: %d", s.l, i, e)
			}
		}
		if e := Verify(other.refPublic(t), s.msg, joined(parts)); e != api.OK {
			t.Errorf("%v, of another seed: %d", s.l, e)
		}
	}
}

// P9.3, P9.6: under the same public keys another leaf of the bottom tree signs as well; one of another tree does not.
func TestOtherLeaf(t *testing.T) {
	for _, s := range someSigned(t) {
		above := len(s.l) - 1
		for index := range s.count(t) {
			parts := s.refParts(t, index, s.msg)
			sig := joined(slices.Concat(s.parts[:2*above], parts[2*above:]))
			if slices.Equal(s.refLeaves(t, index)[:above], s.refLeaves(t, s.index)[:above]) {
				checkSig(t, s.pub, s.msg, sig, index, s.l)
			} else if e := Verify(s.pub, s.msg, sig); e != api.ErrSig {
				t.Errorf("%v, leaf of index %d for %d: %d", s.l, index, s.index, e)
			}
		}
	}
}
