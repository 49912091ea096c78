package dsa

import (
	"bytes"
	"crypto/sha3"
	"math/rand"
	"testing"

	"livery/api"
)

// P16.1: both keys, of any bytes.
func TestKeyGen(t *testing.T) {
	draw := rand.New(rand.NewSource(1))
	l := [][32]byte{{}, [32]byte(bytes.Repeat([]byte{255}, 32)), {1}, {31: 128}}
	for range 12 {
		l = append(l, drawn32(draw))
	}
	for _, xi := range l {
		pk, sk, e := KeyGen(xi)
		wantPk, wantSk := refKeyGen(t, xi)
		if e != api.OK || !bytes.Equal(pk, wantPk) || !bytes.Equal(sk, wantSk) {
			t.Fatalf("KeyGen(%x): %x and %x %d, and not %x and %x", xi, pk, sk, e, wantPk, wantSk)
		}
		if len(pk) != 1952 || len(sk) != 4032 {
			t.Fatalf("KeyGen(%x): %d and %d bytes", xi, len(pk), len(sk))
		}
	}
}

// P16.1: the chapter's example, and what both keys have in their places.
func TestKeyGenParts(t *testing.T) {
	for n := range 4 {
		xi := counted(n)
		pk, sk, e := KeyGen(xi)
		mustBeOK(t, e)
		all := sha3.SumSHAKE256(append(xi[:], 6, 5), 128)
		if !bytes.Equal(pk[:32], all[:32]) || !bytes.Equal(sk[:32], all[:32]) || !bytes.Equal(sk[32:64], all[96:]) || !bytes.Equal(sk[64:128], sha3.SumSHAKE256(pk, 64)) {
			t.Errorf("KeyGen(%x): %x and %x", xi, pk, sk)
		}
	}
}

// P16.1, R3, R4: the same keys again, though the caller modified the first ones.
func TestKeyGenAgain(t *testing.T) {
	pk, sk, e := KeyGen([32]byte{3})
	mustBeOK(t, e)
	wantPk, wantSk := bytes.Clone(pk), bytes.Clone(sk)
	clear(pk)
	if !bytes.Equal(sk, wantSk) {
		t.Error("the keys share memory")
	}
	clear(sk)
	pk, sk, e = KeyGen([32]byte{3})
	if e != api.OK || !bytes.Equal(pk, wantPk) || !bytes.Equal(sk, wantSk) {
		t.Errorf("%x and %x %d, and not %x and %x", pk, sk, e, wantPk, wantSk)
	}
}

// skError returns what Sign makes of sk: for any secret key, that no attempts are not enough.
func skError(sk []byte) api.Errno {
	_, e := Sign(sk, nil, nil, [32]byte{}, 0)
	return e
}

// P16.2: each coefficient of s and e must be from -4 to 4, which is encoded as 8 to 0.
func TestSmallSecrets(t *testing.T) {
	_, sk := keyPair(t, rand.New(rand.NewSource(2)))
	put := func(i, n int) []byte {
		b := bytes.Clone(sk)
		at, shift := 128+i/2, i%2*4
		b[at] = b[at]&(0xf0>>shift) | byte(n<<shift)
		return b
	}
	for i := range 11 * 256 {
		l := []int{0, 8, 9, 15}
		if i%128 < 2 {
			l = []int{0, 1, 2, 3, 4, 5, 6, 7, 8, 9, 10, 11, 12, 13, 14, 15}
		}
		for _, n := range l {
			want := api.ErrArg
			if n > 8 {
				want = api.ErrSk
			}
			if e := skError(put(i, n)); e != want {
				t.Fatalf("coefficient %d is encoded as %d: error %d", i, n, e)
			}
		}
	}
}

// P16.2, R1: everything else in a secret key may be anything.
func TestOtherSecrets(t *testing.T) {
	draw := rand.New(rand.NewSource(3))
	_, sk := keyPair(t, draw)
	for i := range sk {
		if i >= 128 && i < 1536 {
			continue
		}
		if e := skError(changed(sk, i, byte(1+draw.Intn(255)))); e != api.ErrArg {
			t.Fatalf("byte %d: error %d", i, e)
		}
	}
	for _, b := range [][]byte{
		make([]byte, 4032),
		refJoin(bytes.Repeat([]byte{255}, 128), bytes.Repeat([]byte{0x88}, 1408), bytes.Repeat([]byte{255}, 2496)),
		refJoin(drawn(draw, 128), make([]byte, 1408), drawn(draw, 2496)),
	} {
		if e := skError(b); e != api.ErrArg {
			t.Errorf("%x: error %d", b, e)
		}
	}
}

// P16.2, R6: secret keys of other lengths, also those that begin as one does.
func TestSecretLength(t *testing.T) {
	pk, sk := keyPair(t, rand.New(rand.NewSource(4)))
	for _, b := range append(others(api.DsaSk), pk, sk[1:], sk[:4031], sk[:1536], append(bytes.Clone(sk), 0), refJoin(sk, sk)) {
		sig, e := Sign(b, nil, nil, [32]byte{}, 100)
		if e != api.ErrSk || sig != nil {
			t.Errorf("%d bytes: %x, error %d", len(b), sig, e)
		}
	}
}
