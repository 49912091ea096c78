package dsa

import (
	"bytes"
	"crypto/mldsa"
	"crypto/sha256"
	"crypto/sha3"
	"encoding/hex"
	"math/rand"
	"testing"

	"livery/api"
)

// P16.1 to P16.4: public keys, signatures and verdicts are those of the standard library.
func TestStandardLibrary(t *testing.T) {
	draw := rand.New(rand.NewSource(20))
	for i := range 40 {
		xi, msg, ctx := drawn32(draw), drawn(draw, 20*i), drawn(draw, 6*i)
		theirs, err := mldsa.NewPrivateKey(mldsa.MLDSA65(), xi[:])
		if err != nil {
			t.Fatal(err)
		}
		pk, sk, e := KeyGen(xi)
		if want := theirs.PublicKey().Bytes(); e != api.OK || !bytes.Equal(pk, want) {
			t.Fatalf("KeyGen(%x): %x %d, and not %x", xi, pk, e, want)
		}
		opts := &mldsa.Options{Context: string(ctx)}
		want, err := theirs.SignDeterministic(msg, opts)
		if err != nil {
			t.Fatal(err)
		}
		if sig := signed(t, sk, msg, ctx, [32]byte{}); !bytes.Equal(sig, want) {
			t.Fatalf("%x, %x, %x: %x, and not %x", xi, msg, ctx, sig, want)
		}
		sig := signed(t, sk, msg, ctx, drawn32(draw))
		for _, b := range [][]byte{sig, want, changed(sig, draw.Intn(3309), byte(1+draw.Intn(255))), changed(sig, 3248+draw.Intn(61), 1)} {
			err := mldsa.Verify(theirs.PublicKey(), msg, b, opts)
			if e := Verify(pk, msg, ctx, b); (err == nil) != (e == api.OK) {
				t.Fatalf("%x, %x, %x, %x: error %d, and not %v", pk, msg, ctx, b, e, err)
			}
		}
	}
}

// P16.3: the standard library, too, takes forged signatures for a key that makes it easy, unless a coefficient is too great.
func TestStandardLimit(t *testing.T) {
	draw := rand.New(rand.NewSource(21))
	rho := drawn(draw, 32)
	theirs, err := mldsa.NewPublicKey(mldsa.MLDSA65(), forgeable(rho))
	if err != nil {
		t.Fatal(err)
	}
	for _, x := range []int32{524090, 524091, 524092, 524288} {
		z := drawnZ(draw)
		z[draw.Intn(5)][draw.Intn(256)] = x
		sig := refForge(t, rho, nil, nil, z, []api.Hint{{5: true}, {}, {255: true}, {}, {}, {0: true}})
		err := mldsa.Verify(theirs, nil, sig, nil)
		if e := Verify(forgeable(rho), nil, nil, sig); (err == nil) != (e == api.OK) {
			t.Errorf("%d: error %d, and not %v", x, e, err)
		}
	}
}

// P16.1, P16.2: the sum over 100 public keys and signatures that the tests of the standard library hold (of crypto/mldsa, TestAccumulated).
func TestAccumulated(t *testing.T) {
	draw, sum := sha3.NewSHAKE128(), sha3.NewSHAKE128()
	for range 100 {
		var xi [32]byte
		draw.Read(xi[:])
		pk, sk, e := KeyGen(xi)
		mustBeOK(t, e)
		sum.Write(pk)
		sum.Write(signed(t, sk, nil, nil, [32]byte{}))
	}
	got := make([]byte, 32)
	sum.Read(got)
	if hex.EncodeToString(got) != "8358a1843220194417cadbc2651295cd8fc65125b5a5c1a239a16dc8b57ca199" {
		t.Errorf("%x", got)
	}
}

// P16.1, P16.2: a secret key, which the standard library does not show, and what else belongs to it; the sums were computed with another program.
func TestKnown(t *testing.T) {
	var xi [32]byte
	for i := range xi {
		xi[i] = byte(i)
	}
	pk, sk, e := KeyGen(xi)
	mustBeOK(t, e)
	sig := signed(t, sk, []byte("what is signed"), []byte("where"), [32]byte{})
	for i, want := range []string{
		"d666806e11cee19a7c989f7445f90dd419cf4d2d51db8c0fdb4c0f0a542238c9",
		"9f1e24f47795fe50040384e3d6183988047170fa2d866406b70fe0a3f8216063",
		"43dfb46277046d11248ede9b15af984527280cf655269b7e683e659b6cafdd7a",
	} {
		if got := sha256.Sum256([][]byte{pk, sk, sig}[i]); hex.EncodeToString(got[:]) != want {
			t.Errorf("%d: %x, and not %s", i, got, want)
		}
	}
}
