package lms

import (
	"bytes"
	"crypto/sha256"
	"crypto/sha3"
	"encoding/binary"
	"math/rand"
	"slices"
	"testing"

	"livery/api"
	"livery/lmots"
	"livery/param"
)

// What the tests hold the package against: the chapter, step by step, with the hashes of the standard library.

// key is a tree, and what it is computed from.
type key struct {
	l    api.Lms
	o    api.Ots
	id   [16]byte
	seed []byte
}

// lmsSets are all parameter sets of LMS.
func lmsSets(t *testing.T) []api.Lms {
	var all []api.Lms
	for code := range param.LmsCodes() {
		l, e := param.Lms(code)
		if e != api.OK {
			t.Fatal(code, e)
		}
		all = append(all, l)
	}
	if len(all) != 36 {
		t.Fatal(all)
	}
	return all
}

// otsSets are all parameter sets of LM-OTS.
func otsSets(t *testing.T) []api.Ots {
	var all []api.Ots
	for code := range param.OtsCodes() {
		o, e := param.Ots(code)
		if e != api.OK {
			t.Fatal(code, e)
		}
		all = append(all, o)
	}
	if len(all) != 16 {
		t.Fatal(all)
	}
	return all
}

// keys are one of each pair of sets that fit and are quick: the trees are of at most that height, and lower where chains are long.
func keys(t *testing.T, height int) []key {
	draw := rand.New(rand.NewSource(81))
	var all []key
	for _, l := range lmsSets(t) {
		for _, o := range otsSets(t) {
			if l.N != o.N || l.Shake != o.Shake || l.H > height || o.W == 8 && l.H > 2 {
				continue
			}
			k := key{l: l, o: o, seed: some(draw, l.N)}
			draw.Read(k.id[:])
			all = append(all, k)
		}
	}
	return all
}

// some returns n bytes that are drawn.
func some(draw *rand.Rand, n int) []byte {
	b := make([]byte, n)
	draw.Read(b)
	return b
}

func u32(n uint32) []byte { return binary.BigEndian.AppendUint32(nil, n) }

// refHash is the hash of a set of LMS.
func refHash(l api.Lms, parts ...[]byte) []byte {
	all := bytes.Join(parts, nil)
	if l.Shake {
		return sha3.SumSHAKE256(all, l.N)
	}
	sum := sha256.Sum256(all)
	return sum[:l.N]
}

// leaves is how many there are.
func (k key) leaves() int {
	n := 1
	for range k.l.H {
		n *= 2
	}
	return n
}

// refLeaf is the value of leaf q.
func (k key) refLeaf(t *testing.T, q int) []byte {
	pub, e := lmots.Public(k.o, k.id, uint32(q), k.seed)
	if e != api.OK {
		t.Fatal(k.o, e)
	}
	return refHash(k.l, k.id[:], u32(uint32(k.leaves()+q)), []byte{0x82, 0x82}, pub)
}

// refInner is the value of node r with the children a and b.
func (k key) refInner(r int, a, b []byte) []byte {
	return refHash(k.l, k.id[:], u32(uint32(r)), []byte{0x83, 0x83}, a, b)
}

// refNodes are the values of all nodes, by their numbers.
func (k key) refNodes(t *testing.T) [][]byte {
	nodes := make([][]byte, 2*k.leaves())
	for r := len(nodes) - 1; r > 0; r-- {
		if r >= k.leaves() {
			nodes[r] = k.refLeaf(t, r-k.leaves())
		} else {
			nodes[r] = k.refInner(r, nodes[2*r], nodes[2*r+1])
		}
	}
	return nodes
}

// refPath are the siblings of leaf q and of the nodes above it.
func (k key) refPath(nodes [][]byte, q int) []byte {
	var path []byte
	for r := k.leaves() + q; r > 1; r /= 2 {
		if r%2 == 0 {
			path = append(path, nodes[r+1]...)
		} else {
			path = append(path, nodes[r-1]...)
		}
	}
	return path
}

// refPublic is the public key.
func (k key) refPublic(nodes [][]byte) []byte {
	return slices.Concat(u32(k.l.Code), u32(k.o.Code), k.id[:], nodes[1])
}

// refSign is the signature of a message by leaf q.
func (k key) refSign(t *testing.T, nodes [][]byte, q int, msg []byte) []byte {
	ots, e := lmots.Sign(k.o, k.id, uint32(q), k.seed, msg)
	if e != api.OK {
		t.Fatal(k.o, e)
	}
	return slices.Concat(u32(uint32(q)), ots, u32(k.l.Code), k.refPath(nodes, q))
}

// call is a function with l and o. Its result tells whether what it returned beside the error is the zero value.
type call struct {
	name   string
	leaf   bool // whether it depends on the leaf
	result func(k key, q uint32) (zero bool, e api.Errno)
}

// calls are all functions with l and o.
func calls() []call {
	return []call{
		{"New", false, func(k key, q uint32) (bool, api.Errno) { t, e := New(k.l, k.o, k.id, k.seed); return t == nil, e }},
		{"Leaf", true, func(k key, q uint32) (bool, api.Errno) { b, e := Leaf(k.l, k.o, k.id, k.seed, q); return b == nil, e }},
		{"Root", false, func(k key, q uint32) (bool, api.Errno) { b, e := Root(k.l, k.o, k.id, k.seed); return b == nil, e }},
		{"Path", true, func(k key, q uint32) (bool, api.Errno) { b, e := Path(k.l, k.o, k.id, k.seed, q); return b == nil, e }},
		{"Public", false, func(k key, q uint32) (bool, api.Errno) { b, e := Public(k.l, k.o, k.id, k.seed); return b == nil, e }},
		{"Sign", true, func(k key, q uint32) (bool, api.Errno) {
			b, e := Sign(k.l, k.o, k.id, k.seed, q, []byte("m"))
			return b == nil, e
		}},
	}
}

// notLms are values that differ from a set of LMS in a field.
func notLms(l api.Lms) []api.Lms {
	all := []api.Lms{{}}
	for _, change := range []func(l *api.Lms){
		func(l *api.Lms) { l.Code = 0 },
		func(l *api.Lms) { l.Code++ },
		func(l *api.Lms) { l.Code ^= 1 << 31 },
		func(l *api.Lms) { l.Shake = !l.Shake },
		func(l *api.Lms) { l.N = 56 - l.N },
		func(l *api.Lms) { l.N = 0 },
		func(l *api.Lms) { l.N = -1 },
		func(l *api.Lms) { l.H++ },
		func(l *api.Lms) { l.H = 0 },
		func(l *api.Lms) { l.H = -1 },
		func(l *api.Lms) { l.H = 1 << 40 },
	} {
		other := l
		change(&other)
		all = append(all, other)
	}
	return all
}

// notOts are values that differ from a set of LM-OTS in a field.
func notOts(o api.Ots) []api.Ots {
	all := []api.Ots{{}}
	for _, change := range []func(o *api.Ots){
		func(o *api.Ots) { o.Code = 0 },
		func(o *api.Ots) { o.Code = o.Code%16 + 1 },
		func(o *api.Ots) { o.Shake = !o.Shake },
		func(o *api.Ots) { o.N = 56 - o.N },
		func(o *api.Ots) { o.W = -1 },
		func(o *api.Ots) { o.P++ },
		func(o *api.Ots) { o.LS++ },
	} {
		other := o
		change(&other)
		all = append(all, other)
	}
	return all
}
