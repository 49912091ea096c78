package dring

import (
	"bytes"
	"crypto/mldsa"
	"crypto/sha256"
	"crypto/sha3"
	"encoding/hex"
	"math/rand"
	"slices"
	"testing"

	"livery/api"
)

// ML-DSA, made of this package's functions, to be held against the standard library's. ML-DSA-44 has another step than Decompose, so that its rounding is by the chapter's reading, with that step.

// scheme is a parameter set of ML-DSA.
type scheme struct {
	params        mldsa.Parameters
	rows, columns int // of the matrix
	eta, etaBits  int // of the secrets
	tau           int
	maskBits      int
	most          int // marks
	hash          int // bytes of a signature's hash
	half, bits    int // half a step of rounding; of the number of a step
}

func schemes() []scheme {
	return []scheme{
		{mldsa.MLDSA44(), 4, 4, 2, 3, 39, 18, 80, 32, (8380417 - 1) / 88, 6},
		{mldsa.MLDSA65(), 6, 5, 4, 4, 49, 20, 55, 48, 261888, 4},
		{mldsa.MLDSA87(), 8, 7, 2, 3, 60, 20, 75, 64, 261888, 4},
	}
}

func (k scheme) decompose(a api.DPoly) (high, low api.DPoly) {
	if k.half == api.DGamma2 {
		return Decompose(a)
	}
	for i, x := range a {
		h, l := refSplit(refMod(int(x)), 2*k.half)
		if refMod(int(x))-l == 8380416 {
			h, l = 0, l-1
		}
		high[i], low[i] = int32(h), int32(l)
	}
	return high, low
}

func (k scheme) makeHint(z, r api.DPoly) (h api.Hint, count int) {
	if k.half == api.DGamma2 {
		return MakeHint(z, r)
	}
	before, _ := k.decompose(r)
	after, _ := k.decompose(Add(r, z))
	for i := range h {
		if h[i] = before[i] != after[i]; h[i] {
			count++
		}
	}
	return h, count
}

func (k scheme) useHint(h api.Hint, r api.DPoly) api.DPoly {
	if k.half == api.DGamma2 {
		return UseHint(h, r)
	}
	high, low := k.decompose(r)
	steps := int32(8380416 / (2 * k.half))
	for i := range h {
		switch {
		case h[i] && low[i] > 0:
			high[i] = (high[i] + 1) % steps
		case h[i]:
			high[i] = (high[i] + steps - 1) % steps
		}
	}
	return high
}

// le16 returns n in two bytes.
func le16(n int) []byte { return []byte{byte(n), byte(n / 256)} }

func shake(n int, parts ...[]byte) []byte { return sha3.SumSHAKE256(slices.Concat(parts...), n) }

// matrix returns the transforms that rho makes.
func (k scheme) matrix(t *testing.T, rho []byte) [][]api.DPoly {
	t.Helper()
	m := make([][]api.DPoly, k.rows)
	for r := range m {
		for s := range k.columns {
			a, e := RejNtt(slices.Concat(rho, []byte{byte(s), byte(r)}))
			m[r] = append(m[r], mustPoly(t, a, e))
		}
	}
	return m
}

// times returns the product of a matrix of transforms with a vector.
func times(m [][]api.DPoly, v []api.DPoly) []api.DPoly {
	l := make([]api.DPoly, len(m))
	for r, row := range m {
		for s, a := range row {
			l[r] = Add(l[r], MulNtt(a, Ntt(v[s])))
		}
		l[r] = Inv(l[r])
	}
	return l
}

// keys is a key pair.
type keys struct {
	scheme
	pk, sk    []byte
	m         [][]api.DPoly
	s, e, low []api.DPoly
}

func (k scheme) keys(t *testing.T, seed []byte) keys {
	t.Helper()
	all := shake(128, seed, []byte{byte(k.rows), byte(k.columns)})
	rho, sigma := all[:32], all[32:96]
	pair := keys{scheme: k, m: k.matrix(t, rho), pk: bytes.Clone(rho)}
	var small, rest []byte
	for i := range k.columns + k.rows {
		a, e := RejBounded(k.eta, slices.Concat(sigma, le16(i)))
		if mustPoly(t, a, e); i < k.columns {
			pair.s = append(pair.s, a)
		} else {
			pair.e = append(pair.e, a)
		}
		b, e := PackFrom(int32(k.eta), k.etaBits, a)
		small = append(small, mustBytes(t, b, e)...)
	}
	for i, a := range times(pair.m, pair.s) {
		high, low := Power2Round(Add(a, pair.e[i]))
		pair.low = append(pair.low, low)
		b, e := Pack(10, high)
		pair.pk = append(pair.pk, mustBytes(t, b, e)...)
		b, e = PackFrom(4096, 13, low)
		rest = append(rest, mustBytes(t, b, e)...)
	}
	pair.sk = slices.Concat(rho, all[96:], shake(64, pair.pk), small, rest)
	return pair
}

// commit returns the hash that the steps' numbers make with mu.
func (k scheme) commit(t *testing.T, mu []byte, high []api.DPoly) []byte {
	t.Helper()
	all := bytes.Clone(mu)
	for _, a := range high {
		b, e := Pack(k.bits, a)
		all = append(all, mustBytes(t, b, e)...)
	}
	return shake(k.hash, all)
}

// sign returns a signature that is made without a draw.
func (k keys) sign(t *testing.T, msg, ctx []byte) []byte {
	t.Helper()
	mu := shake(64, k.sk[64:128], []byte{0, byte(len(ctx))}, ctx, msg)
	seed := shake(64, k.sk[32:64], make([]byte, 32), mu)
	for n := 0; ; n += k.columns {
		var y, high []api.DPoly
		for i := range k.columns {
			a, e := Mask(k.maskBits, slices.Concat(seed, le16(n+i)))
			y = append(y, mustPoly(t, a, e))
		}
		w := times(k.m, y)
		for _, a := range w {
			h, _ := k.decompose(a)
			high = append(high, h)
		}
		hash := k.commit(t, mu, high)
		if rest := k.answer(t, hash, y, w); rest != nil {
			return append(hash, rest...)
		}
	}
}

// answer returns what follows the hash in a signature, or nil for a failed attempt.
func (k keys) answer(t *testing.T, hash []byte, y, w []api.DPoly) []byte {
	t.Helper()
	c, e := Ball(k.tau, hash)
	mustPoly(t, c, e)
	var b []byte
	for i, s := range k.s {
		z := Add(y[i], Mul(c, s))
		if int(Norm(z)) >= 1<<(k.maskBits-1)-k.tau*k.eta {
			return nil
		}
		part, e := PackFrom(1<<(k.maskBits-1), k.maskBits, z)
		b = append(b, mustBytes(t, part, e)...)
	}
	var hints []api.Hint
	marks := 0
	for i, a := range w {
		less := Sub(a, Mul(c, k.e[i]))
		_, low := k.decompose(less)
		ct := Mul(c, k.low[i])
		if int(Norm(low)) >= k.half-k.tau*k.eta || int(Norm(ct)) >= k.half {
			return nil
		}
		h, n := k.makeHint(Sub(api.DPoly{}, ct), Add(less, ct))
		hints = append(hints, h)
		marks += n
	}
	part, e := PackHints(hints, k.most)
	if (e == api.ErrLong) != (marks > k.most) {
		t.Fatal(marks, e)
	}
	if e != api.OK {
		return nil
	}
	return append(b, part...)
}

// verify tells whether sig is a signature.
func (k scheme) verify(t *testing.T, pk, msg, ctx, sig []byte) bool {
	t.Helper()
	hash, rest := sig[:k.hash], sig[k.hash:]
	var z []api.DPoly
	for range k.columns {
		a, e := UnpackFrom(1<<(k.maskBits-1), k.maskBits, rest[:32*k.maskBits])
		if z = append(z, mustPoly(t, a, e)); int(Norm(a)) >= 1<<(k.maskBits-1)-k.tau*k.eta {
			return false
		}
		rest = rest[32*k.maskBits:]
	}
	hints, e := UnpackHints(k.rows, k.most, rest)
	if e != api.OK {
		return false
	}
	c, e := Ball(k.tau, hash)
	mustPoly(t, c, e)
	w := times(k.matrix(t, pk[:32]), z)
	for i := range w {
		high, e := Unpack(10, pk[32+320*i:352+320*i])
		w[i] = k.useHint(hints[i], Sub(w[i], Mul(c, Mul(api.DPoly{8192}, mustPoly(t, high, e)))))
	}
	mu := shake(64, shake(64, pk), []byte{0, byte(len(ctx))}, ctx, msg)
	return bytes.Equal(k.commit(t, mu, w), hash)
}

// P15.1 to P15.7: keys and signatures are those of the standard library.
func TestMldsa(t *testing.T) {
	draw := rand.New(rand.NewSource(30))
	for _, k := range schemes() {
		for i := range 12 {
			seed, msg, ctx := drawn(draw, 32), drawn(draw, 10*i), drawn(draw, 3*i)
			theirs, err := mldsa.NewPrivateKey(k.params, seed)
			if err != nil {
				t.Fatal(err)
			}
			pair, pk := k.keys(t, seed), theirs.PublicKey().Bytes()
			if !bytes.Equal(pair.pk, pk) {
				t.Fatalf("%v, %x: %x, and not %x", k.params, seed, pair.pk, pk)
			}
			opts := &mldsa.Options{Context: string(ctx)}
			want, err := theirs.SignDeterministic(msg, opts)
			if err != nil {
				t.Fatal(err)
			}
			if sig := pair.sign(t, msg, ctx); !bytes.Equal(sig, want) {
				t.Fatalf("%v, %x and %x: %x, and not %x", k.params, seed, msg, sig, want)
			}
			checkVerify(t, k, draw, theirs.PublicKey(), msg, want, opts)
		}
	}
}

// checkVerify checks that signatures are accepted or not, as by the standard library: the right one, and changed ones.
func checkVerify(t *testing.T, k scheme, draw *rand.Rand, pk *mldsa.PublicKey, msg, sig []byte, opts *mldsa.Options) {
	t.Helper()
	l := [][]byte{sig}
	for range 6 {
		l = append(l, bytes.Clone(sig))
	}
	hints := len(sig) - k.most - k.rows
	l[1][draw.Intn(len(sig))] ^= byte(1 + draw.Intn(255))
	l[2][hints+draw.Intn(k.most+k.rows)] ^= byte(1 + draw.Intn(255))
	l[3][hints], l[3][hints+1] = sig[hints+1], sig[hints]
	l[4][len(sig)-1]++
	l[5][len(sig)-k.rows-1]++
	copy(l[6][k.hash:], []byte{0, 0, 0})
	for i, other := range l {
		want := mldsa.Verify(pk, msg, other, opts) == nil
		if got := k.verify(t, pk.Bytes(), msg, []byte(opts.Context), other); got != want || want != (i == 0) {
			t.Fatalf("%v, %d, %x: %v, and not %v", k.params, i, other, got, want)
		}
	}
}

// P15.1 to P15.7: whole secret keys, too, are those of another program.
func TestMldsaSecrets(t *testing.T) {
	seed := make([]byte, 32)
	for i := range seed {
		seed[i] = byte(i)
	}
	want := [][2]string{
		{"04bf6b9f579166a627961dfc5c3bf9717df868db88863856356c4668c8b56b0b", "79459417e55e7a2ecb00cd61d4f56b539065742bebfee9688c9088cf6bb1f8fb"},
		{"9f1e24f47795fe50040384e3d6183988047170fa2d866406b70fe0a3f8216063", "43dfb46277046d11248ede9b15af984527280cf655269b7e683e659b6cafdd7a"},
		{"764d3e223ed90c07bc91a0ab6ecd170e5c66ffe39f7039298596039a36005435", "69bc4272fcffd7f9bfa32e532b38af32012541e7c07b3d1c7490c1fdb7d6e093"},
	}
	for i, k := range schemes() {
		pair := k.keys(t, seed)
		for j, b := range [][]byte{pair.sk, pair.sign(t, []byte("what is signed"), []byte("where"))} {
			if got := sha256.Sum256(b); hex.EncodeToString(got[:]) != want[i][j] {
				t.Errorf("%v, %d: %x, of %x", k.params, j, got, b)
			}
		}
	}
}
