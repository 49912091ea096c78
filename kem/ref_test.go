package kem

import (
	"bytes"
	"crypto/sha3"
	"math/rand"
	"testing"

	"livery/api"
	"livery/ring"
)

// What the tests hold the package against: the chapter, step by step, with the hashes of the standard library. Polynomials are multiplied as they are, and not as transforms.

// refBytes are 32 bytes, of a slice that may have more.
func refBytes(b []byte) [32]byte { return [32]byte(b[:32]) }

// refJoin returns the bytes of all parts.
func refJoin(parts ...[]byte) []byte { return bytes.Join(parts, nil) }

// refElement returns the inverse transform of what the matrix of rho has in row i, column j.
func refElement(t *testing.T, rho []byte, i, j int) api.Poly {
	t.Helper()
	a, e := ring.SampleNtt(refJoin(rho, []byte{byte(j)}, []byte{byte(i)}))
	mustBeOK(t, e)
	return ring.Inv(a)
}

func refNoise(t *testing.T, s []byte, n int) api.Poly {
	t.Helper()
	a, e := ring.Cbd(2, sha3.SumSHAKE256(refJoin(s, []byte{byte(n)}), 128))
	mustBeOK(t, e)
	return a
}

// refEncode returns a with d bits, and compressed unless there are 12.
func refEncode(t *testing.T, d int, a api.Poly) []byte {
	t.Helper()
	if d < 12 {
		small, e := ring.Compress(d, a)
		mustBeOK(t, e)
		a = small
	}
	b, e := ring.Encode(d, a)
	mustBeOK(t, e)
	return b
}

// refDecode returns what is encoded with d bits, and decompressed unless there are 12.
func refDecode(t *testing.T, d int, b []byte) api.Poly {
	t.Helper()
	a, e := ring.Decode(d, b)
	mustBeOK(t, e)
	if d < 12 {
		a, e = ring.Decompress(d, a)
		mustBeOK(t, e)
	}
	return a
}

// refPkeKey returns the encryption key and the decryption key.
func refPkeKey(t *testing.T, d [32]byte) ([]byte, []byte) {
	t.Helper()
	both := sha3.Sum512(refJoin(d[:], []byte{3}))
	rho, sigma := both[:32], both[32:]
	var ek, dk []byte
	for i := range 3 {
		sum := refNoise(t, sigma, 3+i)
		for j := range 3 {
			sum = ring.Add(sum, ring.Mul(refElement(t, rho, i, j), refNoise(t, sigma, j)))
		}
		ek = append(ek, refEncode(t, 12, ring.Ntt(sum))...)
		dk = append(dk, refEncode(t, 12, ring.Ntt(refNoise(t, sigma, i)))...)
	}
	return append(ek, rho...), dk
}

// refEncrypt returns the ciphertext of m.
func refEncrypt(t *testing.T, ek []byte, m, r [32]byte) []byte {
	t.Helper()
	rho := ek[1152:1184]
	v := ring.Add(refNoise(t, r[:], 6), refDecode(t, 1, m[:]))
	var ct []byte
	for i := range 3 {
		u := refNoise(t, r[:], 3+i)
		for j := range 3 {
			u = ring.Add(u, ring.Mul(refElement(t, rho, j, i), refNoise(t, r[:], j)))
		}
		ct = append(ct, refEncode(t, 10, u)...)
		v = ring.Add(v, ring.Mul(ring.Inv(refDecode(t, 12, ek[384*i:384*i+384])), refNoise(t, r[:], i)))
	}
	return append(ct, refEncode(t, 4, v)...)
}

// refDecrypt returns the text of ct.
func refDecrypt(t *testing.T, dk, ct []byte) [32]byte {
	t.Helper()
	v := refDecode(t, 4, ct[960:1088])
	for i := range 3 {
		s := ring.Inv(refDecode(t, 12, dk[384*i:384*i+384]))
		v = ring.Sub(v, ring.Mul(s, refDecode(t, 10, ct[320*i:320*i+320])))
	}
	return refBytes(refEncode(t, 1, v))
}

// refKeyGen returns the encapsulation key and the decapsulation key.
func refKeyGen(t *testing.T, d, z [32]byte) ([]byte, []byte) {
	t.Helper()
	ek, dk := refPkeKey(t, d)
	hash := sha3.Sum256(ek)
	return ek, refJoin(dk, ek, hash[:], z[:])
}

// refEncaps returns the shared key and the ciphertext.
func refEncaps(t *testing.T, ek []byte, m [32]byte) ([32]byte, []byte) {
	t.Helper()
	hash := sha3.Sum256(ek)
	both := sha3.Sum512(refJoin(m[:], hash[:]))
	return refBytes(both[:]), refEncrypt(t, ek, m, refBytes(both[32:]))
}

// refDecaps returns the shared key.
func refDecaps(t *testing.T, dk, ct []byte) [32]byte {
	t.Helper()
	m := refDecrypt(t, dk[:1152], ct)
	both := sha3.Sum512(refJoin(m[:], dk[2336:2368]))
	if bytes.Equal(refEncrypt(t, dk[1152:2336], m, refBytes(both[32:])), ct) {
		return refBytes(both[:])
	}
	return refRejected(dk, ct)
}

// refRejected returns the key of a ciphertext that is rejected.
func refRejected(dk, ct []byte) [32]byte {
	return refBytes(sha3.SumSHAKE256(refJoin(dk[2368:2400], ct), 32))
}

// What the tests are made of.

// drawn returns size bytes.
func drawn(draw *rand.Rand, size int) []byte {
	b := make([]byte, size)
	draw.Read(b)
	return b
}

// drawn32 returns 32 bytes.
func drawn32(draw *rand.Rand) [32]byte { return refBytes(drawn(draw, 32)) }

// seeds are 32 bytes that are equal, differ in one bit, or are drawn.
func seeds(draw *rand.Rand, count int) [][32]byte {
	l := [][32]byte{{}, refBytes(bytes.Repeat([]byte{255}, 32)), {1}, {31: 128}}
	for range count {
		l = append(l, drawn32(draw))
	}
	return l
}

// keyPair returns the keys that KeyGen makes of drawn bytes.
func keyPair(t *testing.T, draw *rand.Rand) (ek, dk []byte) {
	t.Helper()
	ek, dk, e := KeyGen(drawn32(draw), drawn32(draw))
	mustBeOK(t, e)
	return ek, dk
}

// put changes the 12-bit integer that has that number in a key.
func put(b []byte, number, n int) {
	at := number / 2 * 3
	if number%2 == 0 {
		b[at], b[at+1] = byte(n), b[at+1]&0xf0|byte(n>>8)
	} else {
		b[at+1], b[at+2] = b[at+1]&0x0f|byte(n<<4), byte(n>>4)
	}
}

// integer returns the 12-bit integer that has that number in a key.
func integer(b []byte, number int) int {
	at := number / 2 * 3
	if number%2 == 0 {
		return int(b[at]) + int(b[at+1])%16*256
	}
	return int(b[at+1])/16 + int(b[at+2])*16
}

// changed returns b with another byte at that place.
func changed(b []byte, at int, mask byte) []byte {
	b = bytes.Clone(b)
	b[at] ^= mask
	return b
}

// others are byte slices that do not have that length, nothing among them.
func others(size int) [][]byte {
	l := [][]byte{nil, {}}
	for _, n := range []int{1, 31, 32, 33, 384, 960, api.KemCt - 1, api.KemCt, api.KemCt + 1, api.PkeDk - 1, api.PkeDk, api.PkeDk + 1, api.KemEk - 1, api.KemEk, api.KemEk + 1, 2336, 2368, api.KemDk - 1, api.KemDk, api.KemDk + 1, 2 * size, 1 << 16} {
		if n != size {
			l = append(l, make([]byte, n), bytes.Repeat([]byte{7}, n))
		}
	}
	return l
}

// mustBeOK ends the test if there is an error.
func mustBeOK(t *testing.T, e api.Errno) {
	t.Helper()
	if e != api.OK {
		t.Fatal(int(e))
	}
}
