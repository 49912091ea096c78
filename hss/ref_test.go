package hss

import (
	"bytes"
	"crypto/sha256"
	"crypto/sha3"
	"encoding/binary"
	"math/rand"
	"slices"
	"testing"

	"livery/api"
	"livery/lms"
	"livery/param"
)

// What the tests hold the package against: the chapter, step by step, with the hashes of the standard library and the trees of layer 8.

// key is a hierarchy, and what it is computed from.
type key struct {
	l    []api.Level
	id   [16]byte
	seed []byte
}

// level is a level of the family's codes: a tree of that height (our own up to 4), and digits of w bits.
func level(family, height, w int) api.Level {
	l := uint32(api.LmsOwn + 16*family + height)
	if height > 4 {
		l = uint32(5*family + 4 + height/5)
	}
	o := uint32(4*family + 1)
	for ; w > 1; w /= 2 {
		o++
	}
	return api.Level{Lms: l, Ots: o}
}

// setsFor are the sets of a valid level.
func setsFor(t *testing.T, v api.Level) (api.Lms, api.Ots) {
	t.Helper()
	l, e := param.Lms(v.Lms)
	o, f := param.Ots(v.Ots)
	if e != api.OK || f != api.OK || l.N != o.N || l.Shake != o.Shake {
		t.Fatal(v, e, f)
	}
	return l, o
}

// singles are all levels whose sets have the same hash and as many bytes.
func singles(t *testing.T) []api.Level {
	var all []api.Level
	for family := range 4 {
		for _, height := range []int{1, 2, 3, 4, 5, 10, 15, 20, 25} {
			for _, w := range []int{1, 2, 4, 8} {
				v := level(family, height, w)
				if l, o := setsFor(t, v); l.H != height || o.W != w {
					t.Fatal(v, l, o)
				}
				all = append(all, v)
			}
		}
	}
	return all
}

// keys are hierarchies of each family that are quick.
func keys(t *testing.T) []key {
	draw := rand.New(rand.NewSource(91))
	var all []key
	for f := range 4 {
		for _, l := range [][]api.Level{
			{level(f, 2, 4)},
			{level(f, 2, 4), level(f, 3, 2)},
			{level(f, 2, 2), level(f, 1, 1)},
			{level(f, 1, 8), level(f, 1, 2)},
			{level(f, 1, 2), level(f, 2, 1), level(f, 1, 4)},
			{level(f, 1, 1), level(f, 1, 2), level(f, 1, 2), level(f, 1, 1)},
		} {
			all = append(all, keyOf(t, draw, l))
		}
	}
	eight := slices.Repeat([]api.Level{level(1, 1, 2)}, 8)
	return append(all, keyOf(t, draw, eight))
}

// keyOf is a hierarchy of these levels, with secrets that are drawn.
func keyOf(t *testing.T, draw *rand.Rand, l []api.Level) key {
	set, _ := setsFor(t, l[0])
	k := key{l: l, seed: some(draw, set.N)}
	draw.Read(k.id[:])
	return k
}

// some returns n bytes that are drawn.
func some(draw *rand.Rand, n int) []byte {
	b := make([]byte, n)
	draw.Read(b)
	return b
}

func u32(n uint32) []byte { return binary.BigEndian.AppendUint32(nil, n) }

// heightsFrom is the sum of the heights from that level on.
func (k key) heightsFrom(t *testing.T, i int) int {
	sum := 0
	for _, v := range k.l[i:] {
		l, _ := setsFor(t, v)
		sum += l.H
	}
	return sum
}

// count is how many indices there are.
func (k key) count(t *testing.T) int { return 1 << k.heightsFrom(t, 0) }

// refLeaves are the leaves of an index.
func (k key) refLeaves(t *testing.T, index int) []uint32 {
	var q []uint32
	for i := range k.l {
		above, below := 1<<k.heightsFrom(t, i), 1<<k.heightsFrom(t, i+1)
		q = append(q, uint32(index%above/below))
	}
	return q
}

// refHash is the hash of a level.
func refHash(t *testing.T, v api.Level, parts ...[]byte) []byte {
	l, _ := setsFor(t, v)
	all := bytes.Join(parts, nil)
	if l.Shake {
		return sha3.SumSHAKE256(all, l.N)
	}
	sum := sha256.Sum256(all)
	return sum[:l.N]
}

// refChild is the child of leaf q.
func refChild(t *testing.T, v api.Level, id [16]byte, seed []byte, q uint32) ([16]byte, []byte) {
	childSeed := refHash(t, v, id[:], u32(q), []byte{255, 254, 255}, seed)
	childId := refHash(t, v, id[:], u32(q), []byte{255, 255, 255}, seed)
	return [16]byte(childId[:16]), childSeed
}

// refTrees are the trees of an index: the hierarchies that they head, had each of them only the levels from there on.
func (k key) refTrees(t *testing.T, index int) []key {
	q := k.refLeaves(t, index)
	all := []key{k}
	for i := 1; i < len(k.l); i++ {
		above := all[i-1]
		id, seed := refChild(t, above.l[0], above.id, above.seed, q[i-1])
		all = append(all, key{above.l[1:], id, seed})
	}
	return all
}

// refTop is the public key of the first tree.
func (k key) refTop(t *testing.T) []byte {
	l, o := setsFor(t, k.l[0])
	pub, e := lms.Public(l, o, k.id, k.seed)
	if e != api.OK {
		t.Fatal(e)
	}
	return pub
}

// refPublic is the public key.
func (k key) refPublic(t *testing.T) []byte {
	return slices.Concat(u32(uint32(len(k.l))), k.refTop(t))
}

// refParts are the parts of a signature: the signature and the public key of each level in turn, and the message's signature.
func (k key) refParts(t *testing.T, index int, msg []byte) [][]byte {
	var parts [][]byte
	q, trees := k.refLeaves(t, index), k.refTrees(t, index)
	for i, tree := range trees {
		l, o := setsFor(t, tree.l[0])
		signed := msg
		if i+1 < len(trees) {
			signed = trees[i+1].refTop(t)
		}
		sig, e := lms.Sign(l, o, tree.id, tree.seed, q[i], signed)
		if e != api.OK {
			t.Fatal(e)
		}
		parts = append(parts, sig)
		if i+1 < len(trees) {
			parts = append(parts, signed)
		}
	}
	return parts
}

// joined is the signature with these parts.
func joined(parts [][]byte) []byte {
	return slices.Concat(u32(uint32(len(parts)/2)), bytes.Join(parts, nil))
}

// blank is a public key and a signature of these levels by these leaves that have nothing but the lengths, the leaves and the public keys' codes.
func blank(t *testing.T, l []api.Level, q []uint32) (pub, sig []byte) {
	sig = u32(uint32(len(l) - 1))
	for i, v := range l {
		set, o := setsFor(t, v)
		key := slices.Concat(u32(v.Lms), u32(v.Ots), make([]byte, 16+set.N))
		if i == 0 {
			pub = slices.Concat(u32(uint32(len(l))), key)
		} else {
			sig = append(sig, key...)
		}
		ots := 4 + o.N*(o.P+1)
		sig = slices.Concat(sig, u32(q[i]), make([]byte, ots+4+set.N*set.H))
	}
	return pub, sig
}

// call is a function with levels. Its result tells whether what it returned beside the error is the zero value.
type call struct {
	name   string
	seeded bool // whether it depends on the seed
	index  bool // and on the index
	result func(k key, index uint64) (zero bool, e api.Errno)
}

// calls are all functions with levels that return an error.
func calls() []call {
	return []call{
		{"May", false, false, func(k key, index uint64) (bool, api.Errno) { return true, May(k.l) }},
		{"Count", false, false, func(k key, index uint64) (bool, api.Errno) { n, e := Count(k.l); return n == 0, e }},
		{"Split", false, true, func(k key, index uint64) (bool, api.Errno) { q, e := Split(k.l, index); return q == nil, e }},
		{"Public", true, false, func(k key, index uint64) (bool, api.Errno) {
			pub, e := Public(k.l, k.id, k.seed)
			return pub == nil, e
		}},
		{"Sign", true, true, func(k key, index uint64) (bool, api.Errno) {
			sig, e := Sign(k.l, k.id, k.seed, index, []byte("m"))
			return sig == nil, e
		}},
	}
}
