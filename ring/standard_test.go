package ring

import (
	"bytes"
	"crypto/mlkem"
	"crypto/mlkem/mlkemtest"
	"crypto/sha256"
	"crypto/sha3"
	"encoding/hex"
	"math/rand"
	"testing"

	"livery/api"
)

// ML-KEM, made of this package's functions alone, to be held against the standard library's.

// scheme is a parameter set of ML-KEM.
type scheme struct {
	rank, eta int // of the matrix; of the secrets
	du, dv    int // bits of a ciphertext's coefficients
}

// keys are what a key pair consists of; all of it are transforms.
type keys struct {
	scheme
	rho  []byte
	s, t []api.Poly
}

func (k scheme) noise(t *testing.T, eta int, seed []byte, n int) api.Poly {
	t.Helper()
	a, e := Cbd(eta, sha3.SumSHAKE256(append(bytes.Clone(seed), byte(n)), 64*eta))
	return mustPoly(t, a, e)
}

func (k keys) matrix(t *testing.T, row, column int) api.Poly {
	t.Helper()
	a, e := SampleNtt(append(bytes.Clone(k.rho), byte(column), byte(row)))
	return mustPoly(t, a, e)
}

func (k scheme) keys(t *testing.T, d []byte) keys {
	t.Helper()
	both := sha3.Sum512(append(bytes.Clone(d), byte(k.rank)))
	pair := keys{scheme: k, rho: both[:32]}
	for i := range k.rank {
		pair.s = append(pair.s, Ntt(k.noise(t, k.eta, both[32:], i)))
	}
	for i := range k.rank {
		sum := Ntt(k.noise(t, k.eta, both[32:], k.rank+i))
		for j := range k.rank {
			sum = Add(sum, MulNtt(pair.matrix(t, i, j), pair.s[j]))
		}
		pair.t = append(pair.t, sum)
	}
	return pair
}

// public returns the encapsulation key.
func (k keys) public(t *testing.T) []byte {
	t.Helper()
	var b []byte
	for _, a := range k.t {
		part, e := Encode(12, a)
		if b = append(b, mustBytes(t, part, e)...); !Canon(part) {
			t.Fatalf("%x", part)
		}
	}
	return append(b, k.rho...)
}

// squeeze returns what a ciphertext has of a polynomial.
func squeeze(t *testing.T, d int, a api.Poly) []byte {
	t.Helper()
	small, e := Compress(d, a)
	b, e2 := Encode(d, mustPoly(t, small, e))
	return mustBytes(t, b, e2)
}

// widen returns a polynomial of a ciphertext.
func widen(t *testing.T, d int, b []byte) api.Poly {
	t.Helper()
	small, e := Decode(d, b)
	a, e2 := Decompress(d, mustPoly(t, small, e))
	return mustPoly(t, a, e2)
}

// encrypt returns a ciphertext of m.
func (k keys) encrypt(t *testing.T, m, seed []byte) []byte {
	t.Helper()
	var y []api.Poly
	for i := range k.rank {
		y = append(y, Ntt(k.noise(t, k.eta, seed, i)))
	}
	var b []byte
	v := Add(k.noise(t, 2, seed, 2*k.rank), widen(t, 1, m))
	for i := range k.rank {
		var u api.Poly
		for j := range k.rank {
			u = Add(u, MulNtt(k.matrix(t, j, i), y[j]))
		}
		b = append(b, squeeze(t, k.du, Add(Inv(u), k.noise(t, 2, seed, k.rank+i)))...)
		v = Add(v, Inv(MulNtt(k.t[i], y[i])))
	}
	return append(b, squeeze(t, k.dv, v)...)
}

// decrypt returns m.
func (k keys) decrypt(t *testing.T, c []byte) []byte {
	t.Helper()
	var product api.Poly
	for i := range k.rank {
		u := widen(t, k.du, c[32*k.du*i:32*k.du*(i+1)])
		product = Add(product, MulNtt(k.s[i], Ntt(u)))
	}
	v := widen(t, k.dv, c[32*k.du*k.rank:])
	return squeeze(t, 1, Sub(v, Inv(product)))
}

// P13.1 to P13.5: keys and ciphertexts of ML-KEM-768 are those of the standard library.
func TestMlkem768(t *testing.T) {
	draw := rand.New(rand.NewSource(16))
	k := scheme{rank: 3, eta: 2, du: 10, dv: 4}
	for range 40 {
		seed, m := drawn(draw, 64), drawn(draw, 32)
		dk, err := mlkem.NewDecapsulationKey768(seed)
		if err != nil {
			t.Fatal(err)
		}
		pair, ek := k.keys(t, seed[:32]), dk.EncapsulationKey().Bytes()
		if got := pair.public(t); !bytes.Equal(got, ek) {
			t.Fatalf("%x: %x, and not %x", seed, got, ek)
		}
		_, c, err := mlkemtest.Encapsulate768(dk.EncapsulationKey(), m)
		if err != nil {
			t.Fatal(err)
		}
		checkCiphertext(t, pair, ek, m, c)
	}
}

// P13.1 to P13.5: likewise of ML-KEM-1024, which has other numbers of bits.
func TestMlkem1024(t *testing.T) {
	draw := rand.New(rand.NewSource(17))
	k := scheme{rank: 4, eta: 2, du: 11, dv: 5}
	for range 40 {
		seed, m := drawn(draw, 64), drawn(draw, 32)
		dk, err := mlkem.NewDecapsulationKey1024(seed)
		if err != nil {
			t.Fatal(err)
		}
		pair, ek := k.keys(t, seed[:32]), dk.EncapsulationKey().Bytes()
		if got := pair.public(t); !bytes.Equal(got, ek) {
			t.Fatalf("%x: %x, and not %x", seed, got, ek)
		}
		_, c, err := mlkemtest.Encapsulate1024(dk.EncapsulationKey(), m)
		if err != nil {
			t.Fatal(err)
		}
		checkCiphertext(t, pair, ek, m, c)
	}
}

// P13.1 to P13.5: likewise of ML-KEM-512, whose secrets are made with eta 3; the standard library does not have it, and the sums were computed with another program.
func TestMlkem512(t *testing.T) {
	d, m := make([]byte, 32), make([]byte, 32)
	for i := range 32 {
		d[i], m[i] = byte(i), byte(100+i)
	}
	k := scheme{rank: 2, eta: 3, du: 10, dv: 4}.keys(t, d)
	ek := k.public(t)
	hash := sha3.Sum256(ek)
	both := sha3.Sum512(append(bytes.Clone(m), hash[:]...))
	c := k.encrypt(t, m, both[32:])
	for _, sum := range []struct {
		b    []byte
		want string
	}{
		{ek, "3ae268dccc5456ac0d0f9b39257dc48fe081383b97c400512d712b739762daee"},
		{c, "9596d0c11b16c7cf90bb1efd90595bdcb2aa9c17614ea9ffb6c416002bdf6d2f"},
	} {
		if got := sha256.Sum256(sum.b); hex.EncodeToString(got[:]) != sum.want {
			t.Errorf("%x: %x", sum.b, got)
		}
	}
	if got := k.decrypt(t, c); !bytes.Equal(got, m) {
		t.Errorf("%x", got)
	}
}

// checkCiphertext checks that c is what m becomes, and becomes m again.
func checkCiphertext(t *testing.T, k keys, ek, m, c []byte) {
	t.Helper()
	hash := sha3.Sum256(ek)
	both := sha3.Sum512(append(bytes.Clone(m), hash[:]...))
	if got := k.encrypt(t, m, both[32:]); !bytes.Equal(got, c) {
		t.Fatalf("%x becomes %x, and not %x", m, got, c)
	}
	if got := k.decrypt(t, c); !bytes.Equal(got, m) {
		t.Fatalf("%x becomes %x, and not %x", c, got, m)
	}
}
