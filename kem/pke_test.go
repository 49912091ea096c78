package kem

import (
	"bytes"
	"crypto/sha3"
	"math/rand"
	"testing"

	"livery/api"
)

// P14.1: both keys, of any 32 bytes.
func TestPkeKey(t *testing.T) {
	for _, d := range seeds(rand.New(rand.NewSource(1)), 30) {
		ek, dk, e := PkeKey(d)
		mustBeOK(t, e)
		wantEk, wantDk := refPkeKey(t, d)
		if !bytes.Equal(ek, wantEk) || !bytes.Equal(dk, wantDk) {
			t.Fatalf("PkeKey(%x): %x and %x, and not %x and %x", d, ek, dk, wantEk, wantDk)
		}
		if len(ek) != api.KemEk || len(dk) != api.PkeDk {
			t.Fatalf("PkeKey(%x): %d and %d bytes", d, len(ek), len(dk))
		}
	}
}

// P14.1: an encryption key ends with rho, which the byte 3 goes into as well.
func TestPkeKeyRho(t *testing.T) {
	for _, d := range seeds(rand.New(rand.NewSource(2)), 5) {
		ek, _, e := PkeKey(d)
		mustBeOK(t, e)
		if g := sha3.Sum512(append(d[:], 3)); !bytes.Equal(ek[1152:], g[:32]) {
			t.Errorf("PkeKey(%x): rho is %x", d, ek[1152:])
		}
	}
}

// P14.1: a ciphertext, of any text and r.
func TestPkeEncrypt(t *testing.T) {
	draw := rand.New(rand.NewSource(3))
	for _, m := range seeds(draw, 5) {
		for _, r := range seeds(draw, 3) {
			ek, _, e := PkeKey(drawn32(draw))
			mustBeOK(t, e)
			checkEncrypt(t, ek, m, r)
		}
	}
}

func checkEncrypt(t *testing.T, ek []byte, m, r [32]byte) {
	t.Helper()
	ct, e := PkeEncrypt(ek, m, r)
	if want := refEncrypt(t, ek, m, r); e != api.OK || !bytes.Equal(ct, want) || len(ct) != api.KemCt {
		t.Fatalf("PkeEncrypt(%x, %x, %x): %x %d, and not %x", ek, m, r, ct, e, want)
	}
}

// P14.1, R1: every encryption key of that length is valid; its integers are taken modulo q.
func TestPkeEncryptAnyKey(t *testing.T) {
	draw := rand.New(rand.NewSource(4))
	keys := [][]byte{make([]byte, 1184), bytes.Repeat([]byte{255}, 1184)}
	for range 10 {
		keys = append(keys, drawn(draw, 1184))
	}
	for _, ek := range keys {
		m, r := drawn32(draw), drawn32(draw)
		checkEncrypt(t, ek, m, r)
		reduced := bytes.Clone(ek)
		for i := range 768 {
			put(reduced, i, integer(ek, i)%3329)
		}
		one, e := PkeEncrypt(ek, m, r)
		mustBeOK(t, e)
		other, e := PkeEncrypt(reduced, m, r)
		mustBeOK(t, e)
		if !bytes.Equal(one, other) {
			t.Fatalf("%x and its remainders lead to %x and %x", ek, one, other)
		}
	}
}

// P14.1: what is encrypted is decrypted to the same.
func TestPkeRoundTrip(t *testing.T) {
	draw := rand.New(rand.NewSource(5))
	for range 20 {
		ek, dk, e := PkeKey(drawn32(draw))
		mustBeOK(t, e)
		for _, m := range seeds(draw, 3) {
			ct, e := PkeEncrypt(ek, m, drawn32(draw))
			mustBeOK(t, e)
			if got, e := PkeDecrypt(dk, ct); e != api.OK || got != m {
				t.Fatalf("%x becomes %x, error %d", m, got, e)
			}
		}
	}
}

// P14.1, R1: every key and every ciphertext of their lengths are valid.
func TestPkeDecrypt(t *testing.T) {
	draw := rand.New(rand.NewSource(6))
	_, dk, e := PkeKey(drawn32(draw))
	mustBeOK(t, e)
	keys := [][]byte{dk, make([]byte, 1152), bytes.Repeat([]byte{255}, 1152), drawn(draw, 1152), drawn(draw, 1152)}
	texts := [][]byte{make([]byte, 1088), bytes.Repeat([]byte{255}, 1088)}
	for range 20 {
		texts = append(texts, drawn(draw, 1088))
	}
	for _, dk := range keys {
		for _, ct := range texts {
			got, e := PkeDecrypt(dk, ct)
			if want := refDecrypt(t, dk, ct); e != api.OK || got != want {
				t.Fatalf("PkeDecrypt(%x, %x): %x %d, and not %x", dk, ct, got, e, want)
			}
		}
	}
}

// P14.1: with a key of zeros, a ciphertext's text is its second part, rounded.
func TestPkeDecryptRounds(t *testing.T) {
	dk, ct := make([]byte, 1152), make([]byte, 1088)
	for i := range 128 {
		ct[960+i] = byte(2*i%16 + (2*i+1)%16*16) // 0 to 15, again and again
	}
	got, e := PkeDecrypt(dk, ct)
	// 4 becomes 832, and 12 becomes 2497: both are just nearer to 0 than to q / 2, modulo q.
	if want := refBytes(bytes.Repeat([]byte{0xe0, 0x0f}, 16)); e != api.OK || got != want {
		t.Errorf("%x %d, and not %x", got, e, want)
	}
}

// P14.1, R2, R6: encryption keys of other lengths.
func TestPkeEncryptErrors(t *testing.T) {
	for _, ek := range others(api.KemEk) {
		if ct, e := PkeEncrypt(ek, [32]byte{1}, [32]byte{2}); e != api.ErrEk || ct != nil {
			t.Errorf("%d bytes: %x, error %d", len(ek), ct, e)
		}
	}
}

// P14.1, R2, R6: decryption keys and ciphertexts of other lengths; the key comes first.
func TestPkeDecryptErrors(t *testing.T) {
	dk, ct := make([]byte, api.PkeDk), bytes.Repeat([]byte{255}, api.KemCt)
	for _, other := range others(api.PkeDk) {
		for _, ct := range [][]byte{ct, nil, ct[1:]} {
			if m, e := PkeDecrypt(other, ct); e != api.ErrDk || m != [32]byte{} {
				t.Errorf("a key of %d bytes, a ciphertext of %d: %x, error %d", len(other), len(ct), m, e)
			}
		}
	}
	for _, other := range others(api.KemCt) {
		if m, e := PkeDecrypt(dk, other); e != api.ErrCt || m != [32]byte{} {
			t.Errorf("a ciphertext of %d bytes: %x, error %d", len(other), m, e)
		}
	}
}

// P14.1, R3, R4: arguments stay as they are, results may be changed, and the same calls return the same.
func TestPkeAgain(t *testing.T) {
	draw := rand.New(rand.NewSource(7))
	d, m, r := drawn32(draw), drawn32(draw), drawn32(draw)
	ek, dk, e := PkeKey(d)
	mustBeOK(t, e)
	ct, e := PkeEncrypt(ek, m, r)
	mustBeOK(t, e)
	keptEk, keptDk, keptCt := bytes.Clone(ek), bytes.Clone(dk), bytes.Clone(ct)
	if _, e := PkeDecrypt(dk, ct); e != api.OK || !bytes.Equal(ek, keptEk) || !bytes.Equal(dk, keptDk) || !bytes.Equal(ct, keptCt) {
		t.Error("an argument was changed", e)
	}
	clear(ct)
	clear(ek)
	if !bytes.Equal(dk, keptDk) {
		t.Error("the keys share memory")
	}
	again, againDk, e := PkeKey(d)
	mustBeOK(t, e)
	if !bytes.Equal(again, keptEk) || !bytes.Equal(againDk, keptDk) {
		t.Errorf("%x and %x", again, againDk)
	}
	if ct, e := PkeEncrypt(keptEk, m, r); e != api.OK || !bytes.Equal(ct, keptCt) {
		t.Errorf("%x, error %d", ct, e)
	}
}
