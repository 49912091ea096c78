package wots

import (
	"bytes"
	"crypto/sha256"
	"crypto/sha3"
	"encoding/binary"
	"math/rand"
	"slices"
	"strconv"
	"testing"

	"livery/api"
	"livery/param"
)

// sets are all parameter sets.
func sets(t *testing.T) []api.Xms {
	var l []api.Xms
	for code := range param.XmssCodes() {
		x, e := param.Xmss(code)
		if e != api.OK {
			t.Fatal(code, e)
		}
		l = append(l, x)
	}
	if len(l) != 28 {
		t.Fatal(l)
	}
	return l
}

// families are one set of each family.
func families(t *testing.T) []api.Xms {
	var l []api.Xms
	for _, code := range []uint32{1, 13, 16, api.XmssOwn + 16*3 + 2} {
		x, e := param.Xmss(code)
		if e != api.OK {
			t.Fatal(code, e)
		}
		l = append(l, x)
	}
	return l
}

// notSets are values that differ from a set in a field.
func notSets(x api.Xms) []api.Xms {
	l := []api.Xms{{}}
	for _, change := range []func(x *api.Xms){
		func(x *api.Xms) { x.Code = 0 },
		func(x *api.Xms) { x.Code ^= 8 },
		func(x *api.Xms) { x.Code = x.Code%3 + 1 },
		func(x *api.Xms) { x.Code |= 1 << 31; x.Code ^= 1 << 30 },
		func(x *api.Xms) { x.Shake = !x.Shake },
		func(x *api.Xms) { x.N = 56 - x.N },
		func(x *api.Xms) { x.N = 0 },
		func(x *api.Xms) { x.N = -1 },
		func(x *api.Xms) { x.N = 1 << 62 },
		func(x *api.Xms) { x.H++ },
		func(x *api.Xms) { x.H = 0 },
		func(x *api.Xms) { x.Len = 118 - x.Len },
		func(x *api.Xms) { x.Len = 0 },
		func(x *api.Xms) { x.Len = -1 },
		func(x *api.Xms) { x.Len = 1 << 62 },
	} {
		other := x
		change(&other)
		l = append(l, other)
	}
	return l
}

// The chapter, step by step, with the hashes of the standard library.

func refKeyed(x api.Xms, number byte, key, m []byte) []byte {
	head := make([]byte, 32)
	if x.N == 24 {
		head = make([]byte, 4)
	}
	head[len(head)-1] = number
	all := slices.Concat(head, key, m)
	if x.Shake {
		return sha3.SumSHAKE256(all, 32)[:x.N]
	}
	sum := sha256.Sum256(all)
	return sum[:x.N]
}

func refBytes(a api.Adrs) []byte {
	var b []byte
	for i := 0; i < 8; i++ {
		b = binary.BigEndian.AppendUint32(b, a[i])
	}
	return b
}

// refDigits reads the digits from the bytes written as text.
func refDigits(m []byte) []int {
	var l []int
	sum := 0
	read := func(r byte) {
		d, _ := strconv.ParseInt(string(rune(r)), 16, 64)
		l = append(l, int(d))
	}
	for _, b := range m {
		text := strconv.FormatInt(int64(b)+256, 16)
		read(text[1])
		read(text[2])
	}
	for _, d := range l {
		sum += 15 - d
	}
	text := strconv.FormatInt(int64(sum)+4096, 16)
	for i := 1; i < 4; i++ {
		read(text[i])
	}
	return l
}

func refChain(x api.Xms, b []byte, from, steps int, seed []byte, a api.Adrs) []byte {
	for s := from; s < from+steps; s++ {
		mask := refKeyed(x, 3, seed, refBytes(api.Adrs{a[0], a[1], a[2], a[3], a[4], a[5], uint32(s), 1}))
		key := refKeyed(x, 3, seed, refBytes(api.Adrs{a[0], a[1], a[2], a[3], a[4], a[5], uint32(s), 0}))
		masked := make([]byte, len(b))
		for i := range masked {
			masked[i] = b[i] ^ mask[i]
		}
		b = refKeyed(x, 0, key, masked)
	}
	return b
}

func refSecret(x api.Xms, sk, seed []byte, a api.Adrs, i int) []byte {
	place := refBytes(api.Adrs{a[0], a[1], a[2], a[3], a[4], uint32(i), 0, 0})
	return refKeyed(x, 4, sk, slices.Concat(seed, place))
}

// refChained takes each start as many steps as counts tells.
func refChained(x api.Xms, sk, seed []byte, a api.Adrs, counts []int) []byte {
	var all []byte
	for i, steps := range counts {
		a[5] = uint32(i)
		all = append(all, refChain(x, refSecret(x, sk, seed, a, i), 0, steps, seed, a)...)
	}
	return all
}

func refPublic(x api.Xms, sk, seed []byte, a api.Adrs) []byte {
	return refChained(x, sk, seed, a, slices.Repeat([]int{15}, map[int]int{32: 67, 24: 51}[x.N]))
}

func refSign(x api.Xms, sk, seed, m []byte, a api.Adrs) []byte {
	return refChained(x, sk, seed, a, refDigits(m))
}

func refFromSig(x api.Xms, seed, m, sig []byte, a api.Adrs) []byte {
	var all []byte
	for i, d := range refDigits(m) {
		a[5] = uint32(i)
		all = append(all, refChain(x, sig[:x.N], d, 15-d, seed, a)...)
		sig = sig[x.N:]
	}
	return all
}

// some returns n bytes that are drawn.
func some(draw *rand.Rand, n int) []byte {
	b := make([]byte, n)
	draw.Read(b)
	return b
}

// someLeaf returns a leaf that is drawn: its secret, its seed and its address, all words of which are drawn.
func someLeaf(draw *rand.Rand, n int) (sk, seed []byte, a api.Adrs) {
	for i := range a {
		a[i] = draw.Uint32()
	}
	return some(draw, n), some(draw, n), a
}

// someTexts returns byte strings to sign: the two extremes, some with few bits, and drawn ones.
func someTexts(draw *rand.Rand, n int) [][]byte {
	l := [][]byte{make([]byte, n), bytes.Repeat([]byte{255}, n), bytes.Repeat([]byte{0x0F}, n), bytes.Repeat([]byte{0xF0}, n)}
	for bit := range 8 * n {
		b := make([]byte, n)
		b[bit/8] = 1 << (bit % 8)
		l = append(l, b)
	}
	for range 50 {
		l = append(l, some(draw, n))
	}
	return l
}

// otherSizes are numbers of bytes that are not N.
func otherSizes(n int) []int { return []int{0, 1, n - 1, n + 1, 56 - n, 2 * n} }
