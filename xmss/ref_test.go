package xmss

import (
	"crypto/sha256"
	"crypto/sha3"
	"encoding/binary"
	"math/rand"
	"slices"
	"testing"

	"livery/api"
	"livery/param"
	"livery/wots"
)

// What the tests hold the package against: the chapter, step by step, with the hashes of the standard library; the one-time signatures are those of layer 10.

// sets are all parameter sets.
func sets(t *testing.T) []api.Xms {
	var all []api.Xms
	for code := range param.XmssCodes() {
		x, e := param.Xmss(code)
		if e != api.OK {
			t.Fatal(code, e)
		}
		all = append(all, x)
	}
	if len(all) != 28 {
		t.Fatal(all)
	}
	return all
}

// low are the sets whose trees are of at most that height, which are so few that all of them can be computed.
func low(t *testing.T, height int) []api.Xms {
	return slices.DeleteFunc(sets(t), func(x api.Xms) bool { return x.H > height })
}

// notSets are values that differ from a set in a field.
func notSets(x api.Xms) []api.Xms {
	all := []api.Xms{{}}
	for _, change := range []func(x *api.Xms){
		func(x *api.Xms) { x.Code = 0 },
		func(x *api.Xms) { x.Code ^= 8 },
		func(x *api.Xms) { x.Code = x.Code%3 + 1 },
		func(x *api.Xms) { x.Code ^= 1 << 30 },
		func(x *api.Xms) { x.Shake = !x.Shake },
		func(x *api.Xms) { x.N = 56 - x.N },
		func(x *api.Xms) { x.N = 0 },
		func(x *api.Xms) { x.N = -1 },
		func(x *api.Xms) { x.N = 1 << 62 },
		func(x *api.Xms) { x.H++ },
		func(x *api.Xms) { x.H = 0 },
		func(x *api.Xms) { x.H = -1 },
		func(x *api.Xms) { x.H = 1 << 40 },
		func(x *api.Xms) { x.Len = 118 - x.Len },
		func(x *api.Xms) { x.Len = 0 },
		func(x *api.Xms) { x.Len = -1 },
		func(x *api.Xms) { x.Len = 1 << 62 },
	} {
		other := x
		change(&other)
		all = append(all, other)
	}
	return all
}

// some returns n bytes that are drawn.
func some(draw *rand.Rand, n int) []byte {
	b := make([]byte, n)
	draw.Read(b)
	return b
}

// someKey returns a key that is drawn.
func someKey(draw *rand.Rand, n int) api.XmssKey {
	return api.XmssKey{Seed: some(draw, n), Prf: some(draw, n), Pub: some(draw, n)}
}

// leafCount is how many leaves there are.
func leafCount(x api.Xms) int {
	n := 1
	for range x.H {
		n *= 2
	}
	return n
}

// toBytes is i in n bytes.
func toBytes(i, n int) []byte {
	b := make([]byte, n)
	binary.BigEndian.PutUint64(b[n-8:], uint64(i))
	return b
}

// refHash is the keyed hash with that number.
func refHash(x api.Xms, number int, key, m []byte) []byte {
	head := toBytes(number, 32)
	if x.N == 24 {
		head = head[28:]
	}
	all := slices.Concat(head, key, m)
	if x.Shake {
		return sha3.SumSHAKE256(all, 32)[:x.N]
	}
	sum := sha256.Sum256(all)
	return sum[:x.N]
}

// refNode is the node of left and right, where a has all words of the address but the last one.
func refNode(x api.Xms, seed []byte, a [7]uint32, left, right []byte) []byte {
	var drawn [3][]byte
	for i := range drawn {
		var words []byte
		for _, w := range a {
			words = binary.BigEndian.AppendUint32(words, w)
		}
		drawn[i] = refHash(x, 3, seed, binary.BigEndian.AppendUint32(words, uint32(i)))
	}
	var text []byte
	for i := range x.N {
		text = append(text, left[i]^drawn[1][i])
	}
	for i := range x.N {
		text = append(text, right[i]^drawn[2][i])
	}
	return refHash(x, 1, drawn[0], text)
}

// refLtree is the value of the L-tree of a leaf.
func refLtree(x api.Xms, seed, ends []byte, leaf uint32) []byte {
	var now [][]byte
	for i := range x.Len {
		now = append(now, ends[i*x.N:(i+1)*x.N])
	}
	for height := uint32(0); len(now) > 1; height++ {
		var next [][]byte
		for i := 0; i < len(now); i += 2 {
			if i+1 < len(now) {
				next = append(next, refNode(x, seed, [7]uint32{0, 0, 0, 1, leaf, height, uint32(i / 2)}, now[i], now[i+1]))
			} else {
				next = append(next, now[i])
			}
		}
		now = next
	}
	return now[0]
}

// refLeaf is leaf i.
func refLeaf(t *testing.T, x api.Xms, k api.XmssKey, i int) []byte {
	ends, e := wots.Public(x, k.Seed, k.Pub, api.Adrs{4: uint32(i)})
	if e != api.OK {
		t.Fatal(x, e)
	}
	return refLtree(x, k.Pub, ends, uint32(i))
}

// refInner is node i of a height above the leaves.
func refInner(x api.Xms, seed []byte, height, i int, left, right []byte) []byte {
	return refNode(x, seed, [7]uint32{0, 0, 0, 2, 0, uint32(height - 1), uint32(i)}, left, right)
}

// refTree is the nodes of each height.
func refTree(t *testing.T, x api.Xms, k api.XmssKey) [][][]byte {
	all := make([][][]byte, x.H+1)
	for i := range leafCount(x) {
		all[0] = append(all[0], refLeaf(t, x, k, i))
	}
	for h := 1; h <= x.H; h++ {
		for i := range len(all[h-1]) / 2 {
			all[h] = append(all[h], refInner(x, k.Pub, h, i, all[h-1][2*i], all[h-1][2*i+1]))
		}
	}
	return all
}

// refPath is the path of leaf i.
func refPath(tree [][][]byte, i int) []byte {
	var path []byte
	for _, nodes := range tree[:len(tree)-1] {
		if i%2 == 0 {
			path = append(path, nodes[i+1]...)
		} else {
			path = append(path, nodes[i-1]...)
		}
		i /= 2
	}
	return path
}

// refClimb is the root above leaf i with that path.
func refClimb(x api.Xms, seed []byte, i int, value, path []byte) []byte {
	for h := 1; h <= x.H; h++ {
		if i%2 == 0 {
			value = refInner(x, seed, h, i/2, value, path[:x.N])
		} else {
			value = refInner(x, seed, h, i/2, path[:x.N], value)
		}
		i, path = i/2, path[x.N:]
	}
	return value
}

// refPublic is the public key.
func refPublic(x api.Xms, k api.XmssKey, root []byte) []byte {
	return slices.Concat(binary.BigEndian.AppendUint32(nil, x.Code), root, k.Pub)
}

// refSign is the signature of a message by leaf i.
func refSign(t *testing.T, x api.Xms, k api.XmssKey, root, path []byte, i int, msg []byte) []byte {
	r := refHash(x, 3, k.Prf, toBytes(i, 32))
	hash := refHash(x, 2, slices.Concat(r, root, toBytes(i, x.N)), msg)
	ots, e := wots.Sign(x, k.Seed, k.Pub, hash, api.Adrs{4: uint32(i)})
	if e != api.OK {
		t.Fatal(x, e)
	}
	return slices.Concat(binary.BigEndian.AppendUint32(nil, uint32(i)), r, ots, path)
}

// refSigned is a public key and a signature by leaf i of a tree of any height, of which only the leaf is computed: the path is drawn.
func refSigned(t *testing.T, draw *rand.Rand, x api.Xms, i int, msg []byte) (pub, sig []byte) {
	k := someKey(draw, x.N)
	path := some(draw, x.H*x.N)
	root := refClimb(x, k.Pub, i, refLeaf(t, x, k, i), path)
	return refPublic(x, k, root), refSign(t, x, k, root, path, i, msg)
}

// call is a function with a set and a key. Its result tells whether what it returned beside the error is the zero value.
type call struct {
	name   string
	leaf   bool // whether it has a leaf number
	result func(x api.Xms, k api.XmssKey, i uint32) (zero bool, e api.Errno)
}

// calls are all functions with a set and a key.
func calls() []call {
	return []call{
		{"Leaf", true, func(x api.Xms, k api.XmssKey, i uint32) (bool, api.Errno) { b, e := Leaf(x, k, i); return b == nil, e }},
		{"Root", false, func(x api.Xms, k api.XmssKey, i uint32) (bool, api.Errno) { b, e := Root(x, k); return b == nil, e }},
		{"Path", true, func(x api.Xms, k api.XmssKey, i uint32) (bool, api.Errno) { b, e := Path(x, k, i); return b == nil, e }},
		{"Public", false, func(x api.Xms, k api.XmssKey, i uint32) (bool, api.Errno) { b, e := Public(x, k); return b == nil, e }},
		{"Sign", true, func(x api.Xms, k api.XmssKey, i uint32) (bool, api.Errno) {
			b, e := Sign(x, k, i, []byte("m"))
			return b == nil, e
		}},
		{"New", false, func(x api.Xms, k api.XmssKey, i uint32) (bool, api.Errno) { t, e := New(x, k); return t == nil, e }},
	}
}

// otherSizes are numbers of bytes that are not N.
func otherSizes(n int) []int { return []int{0, 1, n - 1, n + 1, 56 - n, 2 * n} }
