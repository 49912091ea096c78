package kem

import (
	"bytes"
	"crypto/mlkem"
	"crypto/mlkem/mlkemtest"
	"crypto/sha256"
	"crypto/sha3"
	"encoding/hex"
	"math/rand"
	"testing"

	"livery/api"
)

// P14.2 to P14.5: keys, ciphertexts and shared keys are those of the standard library.
func TestStandardLibrary(t *testing.T) {
	draw := rand.New(rand.NewSource(27))
	for range 60 {
		d, z, m := drawn32(draw), drawn32(draw), drawn32(draw)
		theirs, err := mlkem.NewDecapsulationKey768(refJoin(d[:], z[:]))
		if err != nil {
			t.Fatal(err)
		}
		ek, dk, e := KeyGen(d, z)
		if want := theirs.EncapsulationKey().Bytes(); e != api.OK || !bytes.Equal(ek, want) {
			t.Fatalf("KeyGen(%x, %x): %x %d, and not %x", d, z, ek, e, want)
		}
		wantKey, wantCt, err := mlkemtest.Encapsulate768(theirs.EncapsulationKey(), m[:])
		if err != nil {
			t.Fatal(err)
		}
		key, ct, e := Encaps(ek, m)
		if e != api.OK || !bytes.Equal(key[:], wantKey) || !bytes.Equal(ct, wantCt) {
			t.Fatalf("Encaps(%x, %x): %x %x %d, and not %x %x", ek, m, key, ct, e, wantKey, wantCt)
		}
		for _, ct := range [][]byte{ct, changed(ct, draw.Intn(1088), byte(1+draw.Intn(255))), drawn(draw, 1088)} {
			wantKey, err := theirs.Decapsulate(ct)
			if err != nil {
				t.Fatal(err)
			}
			if key, e := Decaps(dk, ct); e != api.OK || !bytes.Equal(key[:], wantKey) {
				t.Fatalf("Decaps(%x, %x): %x %d, and not %x", dk, ct, key, e, wantKey)
			}
		}
	}
}

// P14.2: CheckEk and the standard library take the same keys.
func TestStandardCheck(t *testing.T) {
	draw := rand.New(rand.NewSource(28))
	ek, _ := keyPair(t, draw)
	for range 2000 {
		b := bytes.Clone(ek)
		put(b, draw.Intn(768), 3329-4+draw.Intn(8))
		_, err := mlkem.NewEncapsulationKey768(b)
		if e := CheckEk(b); (err == nil) != (e == api.OK) {
			t.Fatalf("%x: error %d, and not %v", b, e, err)
		}
	}
}

// P14.2 to P14.4: the sum over 10,000 keys, ciphertexts and shared keys that the tests of the standard library hold (of crypto/mlkem, TestAccumulated).
func TestAccumulated(t *testing.T) {
	n, want := 10000, "8a518cc63da366322a8e7a818c7a0d63483cb3528d34a4cf42f35d5ad73f22fc"
	if testing.Short() {
		n, want = 100, "1114b1b6699ed191734fa339376afa7e285c9e6acf6ff0177d346696ce564415"
	}
	draw, sum := sha3.NewSHAKE128(), sha3.NewSHAKE128()
	next := func(size int) []byte {
		b := make([]byte, size)
		draw.Read(b)
		return b
	}
	for range n {
		d, z := refBytes(next(32)), refBytes(next(32))
		ek, dk, e := KeyGen(d, z)
		mustBeOK(t, e)
		key, ct, e := Encaps(ek, refBytes(next(32)))
		mustBeOK(t, e)
		if again, e := Decaps(dk, ct); e != api.OK || again != key {
			t.Fatalf("Decaps(%x, %x): %x %d, and not %x", dk, ct, again, e, key)
		}
		rejected, e := Decaps(dk, next(1088))
		mustBeOK(t, e)
		for _, b := range [][]byte{ek, ct, key[:], rejected[:]} {
			sum.Write(b)
		}
	}
	got := make([]byte, 32)
	sum.Read(got)
	if hex.EncodeToString(got) != want {
		t.Errorf("%x, and not %s", got, want)
	}
}

// P14.1, P14.2: decapsulation keys, which the standard library does not show; the sums were computed with another program.
func TestDecapsulationKeys(t *testing.T) {
	for n, want := range []string{
		"a5e078867af0c0a9702149b3af1adf208dccf878bc9f9e32d4fb028473addd09",
		"cdc5ed94458661e041fda9b5cfb3369938cb1aefdcf40ec63ad5cd13f30cbbab",
		"1d2d3f1e4932733ca9d5bb3c5b2b26e05ce1fc41cd7d01efadc88eba9e22cfbc",
	} {
		var d, z [32]byte
		for i := range 32 {
			d[i], z[i] = byte(n*i), byte(n*(100+i))
		}
		_, dk, e := KeyGen(d, z)
		mustBeOK(t, e)
		if got := sha256.Sum256(dk); hex.EncodeToString(got[:]) != want {
			t.Errorf("%x and %x: %x, and not %s", d, z, got, want)
		}
	}
}
