package dsa

import (
	"bytes"
	"crypto/sha3"
	"math/rand"
	"testing"

	"livery/api"
	"livery/dring"
)

// What the tests hold the package against: the chapter, step by step, with the hashes of the standard library, and encodings bit by bit. Polynomials are multiplied as they are, and not as transforms.

// refH is H of all parts.
func refH(n int, parts ...[]byte) []byte { return sha3.SumSHAKE256(refJoin(parts...), n) }

// refJoin returns the bytes of all parts.
func refJoin(parts ...[]byte) []byte { return bytes.Join(parts, nil) }

// refTwo returns n in two bytes.
func refTwo(n int) []byte { return []byte{byte(n % 256), byte(n / 256)} }

// refPut returns the integers in that many bits each, least significant bit first.
func refPut(bits int, l api.DPoly) []byte {
	b := make([]byte, 32*bits)
	for i, n := range l {
		for j := range bits {
			b[(i*bits+j)/8] |= byte(n>>j&1) << ((i*bits + j) % 8)
		}
	}
	return b
}

// refTake returns the integers of polynomial number i, with that many bits each.
func refTake(bits int, b []byte, i int) (l api.DPoly) {
	b = b[i*32*bits : (i+1)*32*bits]
	for n := range 256 * bits {
		l[n/bits] |= int32(b[n/8]>>(n%8)&1) << (n % bits)
	}
	return l
}

// refBelow returns how far below top the centered coefficients are; the other way round it is the same.
func refBelow(top int32, a api.DPoly) api.DPoly {
	for i, x := range dring.Center(a) {
		a[i] = top - x
	}
	return a
}

// refMatrix returns the inverse transforms of what the matrix of rho consists of.
func refMatrix(t *testing.T, rho []byte) (m [6][5]api.DPoly) {
	t.Helper()
	for r := range m {
		for s := range m[r] {
			a, e := dring.RejNtt(refJoin(rho, []byte{byte(s)}, []byte{byte(r)}))
			mustBeOK(t, e)
			m[r][s] = dring.Inv(a)
		}
	}
	return m
}

// refProduct returns the product of v with the matrix.
func refProduct(m [6][5]api.DPoly, v [5]api.DPoly) (w [6]api.DPoly) {
	for r := range m {
		for s := range v {
			w[r] = dring.Add(w[r], dring.Mul(m[r][s], v[s]))
		}
	}
	return w
}

// refKeyGen returns the public key and the secret key.
func refKeyGen(t *testing.T, xi [32]byte) (pk, sk []byte) {
	t.Helper()
	b := refH(128, xi[:], []byte{6}, []byte{5})
	rho, sigma, k := b[:32], b[32:96], b[96:]
	var small [11]api.DPoly
	var vectors []byte
	for i := range small {
		a, e := dring.RejBounded(4, refJoin(sigma, refTwo(i)))
		mustBeOK(t, e)
		small[i] = a
		vectors = append(vectors, refPut(4, refBelow(4, a))...)
	}
	pk = rho
	for r, a := range refProduct(refMatrix(t, rho), [5]api.DPoly(small[:5])) {
		t1, t0 := dring.Power2Round(dring.Add(a, small[5+r]))
		pk = refJoin(pk, refPut(10, t1))
		vectors = append(vectors, refPut(13, refBelow(4096, t0))...)
	}
	return pk, refJoin(rho, k, refH(64, pk), vectors)
}

// refSecret is a secret key.
type refSecret struct {
	sk []byte
	m  [6][5]api.DPoly
	s  [5]api.DPoly
	e  [6]api.DPoly
	t0 [6]api.DPoly
}

func refSecretOf(t *testing.T, sk []byte) refSecret {
	t.Helper()
	k := refSecret{sk: sk, m: refMatrix(t, sk[:32])}
	for i := range 5 {
		k.s[i] = refBelow(4, refTake(4, sk[128:], i))
	}
	for i := range 6 {
		k.e[i] = refBelow(4, refTake(4, sk[768:], i))
		k.t0[i] = refBelow(4096, refTake(13, sk[1536:], i))
	}
	return k
}

// refAttempt is what an attempt leads to: the greatest coefficients, the number of marks, and the signature, as long as it can be encoded.
type refAttempt struct {
	z, low, t0, marks int
	sig               []byte
}

// fine tells whether the attempt does not fail.
func (a refAttempt) fine() bool {
	return a.z < 524092 && a.low < 261692 && a.t0 < 261888 && a.marks <= 55
}

// attempt returns what attempt i leads to.
func (k refSecret) attempt(t *testing.T, i int, msg, ctx []byte, rnd [32]byte) (a refAttempt) {
	t.Helper()
	mu := refH(64, k.sk[64:128], []byte{0}, []byte{byte(len(ctx))}, ctx, msg)
	rho2 := refH(64, k.sk[32:64], rnd[:], mu)
	var y [5]api.DPoly
	for j := range y {
		p, e := dring.Mask(20, refJoin(rho2, refTwo(5*i+j)))
		mustBeOK(t, e)
		y[j] = p
	}
	w := refProduct(k.m, y)
	all := mu
	for _, p := range w {
		h, _ := dring.Decompose(p)
		all = refJoin(all, refPut(4, h))
	}
	a.sig = refH(48, all)
	c, e := dring.Ball(49, a.sig)
	mustBeOK(t, e)
	for j, p := range y {
		z := dring.Add(p, dring.Mul(k.s[j], c))
		a.z = max(a.z, int(dring.Norm(z)))
		a.sig = refJoin(a.sig, refPut(20, refBelow(524288, z)))
	}
	hints := make([]api.Hint, 6)
	for r := range w {
		rest, lost := dring.Sub(w[r], dring.Mul(k.e[r], c)), dring.Mul(k.t0[r], c)
		_, low := dring.Decompose(rest)
		a.low, a.t0 = max(a.low, int(dring.Norm(low))), max(a.t0, int(dring.Norm(lost)))
		h, marks := dring.MakeHint(dring.Sub(api.DPoly{}, lost), dring.Add(rest, lost))
		hints[r] = h
		a.marks += marks
	}
	a.sig = refJoin(a.sig, refHints(hints))
	return a
}

// refHints returns the positions of the first 55 marks, and how many there are up to the end of each hint.
func refHints(hints []api.Hint) []byte {
	b := make([]byte, 55+len(hints))
	count := 0
	for r, h := range hints {
		for j := range h {
			if h[j] && count < 55 {
				b[count] = byte(j)
				count++
			}
		}
		b[55+r] = byte(count)
	}
	return b
}

// sign returns all attempts up to the first one that does not fail; its signature is the last one's.
func (k refSecret) sign(t *testing.T, msg, ctx []byte, rnd [32]byte) []refAttempt {
	t.Helper()
	var l []refAttempt
	for i := 0; ; i++ {
		a := k.attempt(t, i, msg, ctx, rnd)
		if l = append(l, a); a.fine() {
			return l
		}
	}
}

// refForge returns a signature that consists of these z and hints. It belongs to a public key with rho and a t1 of which all coefficients are 0: to sign for such a key takes no secret key.
func refForge(t *testing.T, rho, msg, ctx []byte, z [5]api.DPoly, hints []api.Hint) []byte {
	t.Helper()
	all := refH(64, refH(64, rho, make([]byte, 1920)), []byte{0}, []byte{byte(len(ctx))}, ctx, msg)
	for r, w := range refProduct(refMatrix(t, rho), z) {
		all = refJoin(all, refPut(4, dring.UseHint(hints[r], w)))
	}
	sig := refH(48, all)
	for _, p := range z {
		sig = refJoin(sig, refPut(20, refBelow(524288, p)))
	}
	return refJoin(sig, refHints(hints))
}

// What the tests are made of.

// drawn returns size bytes.
func drawn(draw *rand.Rand, size int) []byte {
	b := make([]byte, size)
	draw.Read(b)
	return b
}

// drawn32 returns 32 bytes.
func drawn32(draw *rand.Rand) [32]byte { return [32]byte(drawn(draw, 32)) }

// counted returns 32 bytes that begin with n.
func counted(n int) [32]byte { return [32]byte{byte(n), byte(n >> 8), byte(n >> 16)} }

// keyPair returns the keys that KeyGen makes of drawn bytes.
func keyPair(t *testing.T, draw *rand.Rand) (pk, sk []byte) {
	t.Helper()
	pk, sk, e := KeyGen(drawn32(draw))
	mustBeOK(t, e)
	return pk, sk
}

// signed returns a signature without a limit of attempts.
func signed(t *testing.T, sk, msg, ctx []byte, rnd [32]byte) []byte {
	t.Helper()
	sig, e := Sign(sk, msg, ctx, rnd, 1<<30)
	mustBeOK(t, e)
	return sig
}

// changed returns b with another byte at that place.
func changed(b []byte, at int, mask byte) []byte {
	b = bytes.Clone(b)
	b[at] ^= mask
	return b
}

// others are byte slices that do not have that length, nothing among them.
func others(size int) [][]byte {
	l := [][]byte{nil, {}}
	for _, n := range []int{1, 31, 32, 33, 48, 64, 128, api.DsaPk - 1, api.DsaPk, api.DsaPk + 1, api.DsaSig - 1, api.DsaSig, api.DsaSig + 1, api.DsaSk - 1, api.DsaSk, api.DsaSk + 1, size / 2, 2 * size, 1 << 16} {
		if n != size {
			l = append(l, make([]byte, n), bytes.Repeat([]byte{68}, n))
		}
	}
	return l
}

// mustBeOK ends the test if there is an error.
func mustBeOK(t *testing.T, e api.Errno) {
	t.Helper()
	if e != api.OK {
		t.Fatal(int(e))
	}
}
