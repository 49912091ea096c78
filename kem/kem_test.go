package kem

import (
	"bytes"
	"crypto/sha3"
	"encoding/binary"
	"math/rand"
	"testing"

	"livery/api"
)

// P14.2: both keys, of any bytes; the second one has the first one, its hash and z in their places.
func TestKeyGen(t *testing.T) {
	draw := rand.New(rand.NewSource(8))
	for _, d := range seeds(draw, 10) {
		for _, z := range seeds(draw, 1) {
			ek, dk, e := KeyGen(d, z)
			mustBeOK(t, e)
			wantEk, wantDk := refKeyGen(t, d, z)
			if !bytes.Equal(ek, wantEk) || !bytes.Equal(dk, wantDk) {
				t.Fatalf("KeyGen(%x, %x): %x and %x, and not %x and %x", d, z, ek, dk, wantEk, wantDk)
			}
			hash := sha3.Sum256(ek)
			if len(ek) != 1184 || len(dk) != 2400 || !bytes.Equal(dk[1152:2336], ek) || !bytes.Equal(dk[2336:2368], hash[:]) || !bytes.Equal(dk[2368:], z[:]) {
				t.Fatalf("KeyGen(%x, %x): %x and %x", d, z, ek, dk)
			}
		}
	}
}

// P14.2: the chapter's example.
func TestKeyGenOfZeros(t *testing.T) {
	ek, _, e := KeyGen([32]byte{}, [32]byte{})
	mustBeOK(t, e)
	if g := sha3.Sum512(append(make([]byte, 32), 3)); len(ek) != 1184 || !bytes.Equal(ek[1152:], g[:32]) {
		t.Errorf("%x", ek)
	}
}

// P14.5: the keys of KeyGen pass both checks.
func TestChecksOfKeys(t *testing.T) {
	draw := rand.New(rand.NewSource(9))
	for _, d := range seeds(draw, 20) {
		ek, dk, e := KeyGen(d, drawn32(draw))
		mustBeOK(t, e)
		if e := CheckEk(ek); e != api.OK {
			t.Errorf("%x: error %d", ek, e)
		}
		if e := CheckDk(dk); e != api.OK {
			t.Errorf("%x: error %d", dk, e)
		}
	}
}

// P14.2, P14.5: each of the 768 integers must be less than q; rho may be anything.
func TestCheckEk(t *testing.T) {
	draw := rand.New(rand.NewSource(10))
	ek, _ := keyPair(t, draw)
	for i := range 768 {
		for _, c := range []struct {
			n    int
			want api.Errno
		}{{0, api.OK}, {1, api.OK}, {3328, api.OK}, {3329, api.ErrEk}, {3330, api.ErrEk}, {4095, api.ErrEk}} {
			b := bytes.Clone(ek)
			put(b, i, c.n)
			if e := CheckEk(b); e != c.want {
				t.Fatalf("integer %d is %d: error %d", i, c.n, e)
			}
		}
	}
	for _, b := range [][]byte{
		make([]byte, 1184),
		refJoin(ek[:1152], bytes.Repeat([]byte{255}, 32)),
		refJoin(ek[:1152], drawn(draw, 32)),
	} {
		if e := CheckEk(b); e != api.OK {
			t.Errorf("%x: error %d", b, e)
		}
	}
	if e := CheckEk(bytes.Repeat([]byte{255}, 1184)); e != api.ErrEk {
		t.Errorf("bytes of 255: error %d", e)
	}
}

// P14.2, R6: encryption keys of other lengths, also those that begin as one does.
func TestCheckEkLength(t *testing.T) {
	ek, dk := keyPair(t, rand.New(rand.NewSource(11)))
	for _, b := range append(others(api.KemEk), dk, ek[1:], ek[:1183], ek[:1152], append(bytes.Clone(ek), 0), refJoin(ek, ek)) {
		if e := CheckEk(b); e != api.ErrEk {
			t.Errorf("%d bytes: error %d", len(b), e)
		}
	}
}

// P14.2: a change of the encryption key or of its hash is noticed; the decryption key and z may be anything.
func TestCheckDk(t *testing.T) {
	_, dk := keyPair(t, rand.New(rand.NewSource(12)))
	for i := range dk {
		want := api.OK
		if i >= 1152 && i < 2368 {
			want = api.ErrDk
		}
		for bit := range 8 {
			if e := CheckDk(changed(dk, i, 1<<bit)); e != want {
				t.Fatalf("byte %d, bit %d: error %d", i, bit, e)
			}
		}
	}
}

// P14.2, R1: with its hash, any encryption key of that length will do.
func TestCheckDkAnyKey(t *testing.T) {
	draw := rand.New(rand.NewSource(13))
	for _, ek := range [][]byte{make([]byte, 1184), bytes.Repeat([]byte{255}, 1184), drawn(draw, 1184)} {
		hash := sha3.Sum256(ek)
		if e := CheckDk(refJoin(drawn(draw, 1152), ek, hash[:], drawn(draw, 32))); e != api.OK {
			t.Errorf("%x: error %d", ek, e)
		}
	}
}

// P14.2, R6: decapsulation keys of other lengths.
func TestCheckDkLength(t *testing.T) {
	ek, dk := keyPair(t, rand.New(rand.NewSource(14)))
	for _, b := range append(others(api.KemDk), ek, dk[1:], dk[:2399], dk[:2368], append(bytes.Clone(dk), 0), refJoin(dk, dk)) {
		if e := CheckDk(b); e != api.ErrDk {
			t.Errorf("%d bytes: error %d", len(b), e)
		}
	}
}

// P14.2: the shared key and the ciphertext, of any m, and of keys that KeyGen did not make.
func TestEncaps(t *testing.T) {
	draw := rand.New(rand.NewSource(15))
	ek, _ := keyPair(t, draw)
	for _, ek := range [][]byte{ek, make([]byte, 1184), refJoin(ek[:1152], drawn(draw, 32))} {
		for _, m := range seeds(draw, 6) {
			key, ct, e := Encaps(ek, m)
			wantKey, wantCt := refEncaps(t, ek, m)
			if e != api.OK || key != wantKey || !bytes.Equal(ct, wantCt) || len(ct) != api.KemCt {
				t.Fatalf("Encaps(%x, %x): %x %x %d, and not %x %x", ek, m, key, ct, e, wantKey, wantCt)
			}
		}
	}
}

// P14.2, R2: what CheckEk rejects, Encaps rejects.
func TestEncapsErrors(t *testing.T) {
	ek, _ := keyPair(t, rand.New(rand.NewSource(16)))
	bad := append(others(api.KemEk), bytes.Repeat([]byte{255}, 1184))
	for _, i := range []int{0, 1, 255, 256, 511, 512, 767} {
		b := bytes.Clone(ek)
		put(b, i, 3329+i%767)
		bad = append(bad, b)
	}
	for _, b := range bad {
		if key, ct, e := Encaps(b, [32]byte{1}); e != api.ErrEk || key != [32]byte{} || ct != nil {
			t.Errorf("%d bytes: %x %x, error %d", len(b), key, ct, e)
		}
	}
}

// P14.3: Decaps returns the key of Encaps.
func TestDecapsOfEncaps(t *testing.T) {
	draw := rand.New(rand.NewSource(17))
	for range 15 {
		ek, dk := keyPair(t, draw)
		for _, m := range seeds(draw, 3) {
			key, ct, e := Encaps(ek, m)
			mustBeOK(t, e)
			if got, e := Decaps(dk, ct); e != api.OK || got != key {
				t.Fatalf("%x: %x %d, and not %x", m, got, e, key)
			}
		}
	}
}

// P14.4: whichever bit of a ciphertext is changed, the key is that of a rejected one. (Most changes leave the text as it is: then only the comparison of both ciphertexts tells.)
func TestDecapsOfChanged(t *testing.T) {
	draw := rand.New(rand.NewSource(18))
	ek, dk := keyPair(t, draw)
	key, ct, e := Encaps(ek, drawn32(draw))
	mustBeOK(t, e)
	for i := range 8 * len(ct) {
		b := changed(ct, i/8, 1<<(i%8))
		if got, e := Decaps(dk, b); e != api.OK || got != refRejected(dk, b) || got == key {
			t.Fatalf("bit %d: %x %d, and not %x", i, got, e, refRejected(dk, b))
		}
	}
}

// P14.4: ciphertexts that Encaps did not make for this key have a key, each another one.
func TestDecapsOfAny(t *testing.T) {
	draw := rand.New(rand.NewSource(19))
	_, dk := keyPair(t, draw)
	ek, _ := keyPair(t, draw)
	_, foreign, e := Encaps(ek, drawn32(draw))
	mustBeOK(t, e)
	texts := [][]byte{make([]byte, 1088), bytes.Repeat([]byte{255}, 1088), foreign}
	for range 50 {
		texts = append(texts, drawn(draw, 1088))
	}
	seen := map[[32]byte]bool{}
	for _, ct := range texts {
		got, e := Decaps(dk, ct)
		if want := refRejected(dk, ct); e != api.OK || got != want || got != refDecaps(t, dk, ct) || seen[got] {
			t.Fatalf("%x: %x %d, and not %x", ct, got, e, want)
		}
		seen[got] = true
	}
}

// P14.4: a ciphertext of the same text and key, but with another r, is rejected.
func TestDecapsOfOtherNoise(t *testing.T) {
	draw := rand.New(rand.NewSource(20))
	ek, dk := keyPair(t, draw)
	for range 10 {
		m := drawn32(draw)
		key, _, e := Encaps(ek, m)
		mustBeOK(t, e)
		ct, e := PkeEncrypt(ek, m, drawn32(draw))
		mustBeOK(t, e)
		if got, e := Decaps(dk, ct); e != api.OK || got != refRejected(dk, ct) || got == key {
			t.Errorf("%x: %x, error %d", m, got, e)
		}
	}
}

// P14.2 to P14.4: with another z the key of a rejected ciphertext is another one, and that of Encaps the same.
func TestDecapsOfOtherSecret(t *testing.T) {
	draw := rand.New(rand.NewSource(21))
	ek, dk := keyPair(t, draw)
	key, ct, e := Encaps(ek, drawn32(draw))
	mustBeOK(t, e)
	bad := changed(ct, 500, 1)
	for i := range 32 {
		other := changed(dk, 2368+i, 0x40)
		if got, e := Decaps(other, ct); e != api.OK || got != key {
			t.Errorf("byte %d: %x, error %d", i, got, e)
		}
		if got, e := Decaps(other, bad); e != api.OK || got != refRejected(other, bad) || got == refRejected(dk, bad) {
			t.Errorf("byte %d: %x, error %d", i, got, e)
		}
	}
}

// P14.2 to P14.4, R1: decapsulation keys whose parts do not belong together, or are not encoded as KeyGen does it.
func TestDecapsOfAnyKey(t *testing.T) {
	draw := rand.New(rand.NewSource(22))
	ek, dk := keyPair(t, draw)
	_, ct, e := Encaps(ek, drawn32(draw))
	mustBeOK(t, e)
	_, other := keyPair(t, draw)
	keys := [][]byte{
		refJoin(other[:1152], dk[1152:]),
		refJoin(dk[:1152], other[1152:]),
		refJoin(make([]byte, 1152), dk[1152:]),
		refJoin(bytes.Repeat([]byte{255}, 1152), dk[1152:]),
	}
	for _, ek := range [][]byte{make([]byte, 1184), bytes.Repeat([]byte{255}, 1184), drawn(draw, 1184)} {
		hash := sha3.Sum256(ek)
		keys = append(keys, refJoin(dk[:1152], ek, hash[:], drawn(draw, 32)))
	}
	for _, dk := range keys {
		if got, e := Decaps(dk, ct); e != api.OK || got != refDecaps(t, dk, ct) || got != refRejected(dk, ct) {
			t.Errorf("%x: %x, error %d", dk, got, e)
		}
	}
}

// P14.2: integers of q and above in a decapsulation key are taken modulo q, and change nothing but the hash.
func TestDecapsOfGreatIntegers(t *testing.T) {
	draw := rand.New(rand.NewSource(23))
	ek, dk := keyPair(t, draw)
	for i := range 768 {
		for _, key := range [][]byte{ek, dk} {
			if n := integer(key, i); n < 4096-3329 {
				put(key, i, n+3329)
			}
		}
	}
	hash := sha3.Sum256(ek)
	dk = refJoin(dk[:1152], ek, hash[:], dk[2368:])
	if CheckEk(ek) != api.ErrEk || CheckDk(dk) != api.OK {
		t.Fatal("the keys are not what this test needs")
	}
	m := drawn32(draw)
	want, ct := refEncaps(t, ek, m)
	if got, e := Decaps(dk, ct); e != api.OK || got != want {
		t.Errorf("%x %d, and not %x", got, e, want)
	}
}

// P14.2, R1, R2, R6: CheckDk's error comes first, then the length of the ciphertext.
func TestDecapsErrors(t *testing.T) {
	draw := rand.New(rand.NewSource(24))
	ek, dk := keyPair(t, draw)
	_, ct, e := Encaps(ek, drawn32(draw))
	mustBeOK(t, e)
	for _, other := range others(api.KemCt) {
		if key, e := Decaps(dk, other); e != api.ErrCt || key != [32]byte{} {
			t.Errorf("a ciphertext of %d bytes: %x, error %d", len(other), key, e)
		}
	}
	for _, bad := range append(others(api.KemDk), ek, changed(dk, 1152, 1), changed(dk, 2335, 1), changed(dk, 2336, 1), changed(dk, 2367, 128)) {
		for _, ct := range [][]byte{ct, nil, ct[1:], append(bytes.Clone(ct), 0)} {
			if key, e := Decaps(bad, ct); e != api.ErrDk || key != [32]byte{} {
				t.Errorf("a key of %d bytes, a ciphertext of %d: %x, error %d", len(bad), len(ct), key, e)
			}
		}
	}
}

// R3: arguments stay as they are, and results share no memory.
func TestKemMemory(t *testing.T) {
	draw := rand.New(rand.NewSource(25))
	ek, dk := keyPair(t, draw)
	_, ct, e := Encaps(ek, drawn32(draw))
	mustBeOK(t, e)
	keptEk, keptDk, keptCt := bytes.Clone(ek), bytes.Clone(dk), bytes.Clone(ct)
	CheckEk(ek)
	CheckDk(dk)
	if _, e := Decaps(dk, ct); e != api.OK || !bytes.Equal(ek, keptEk) || !bytes.Equal(dk, keptDk) || !bytes.Equal(ct, keptCt) {
		t.Error("an argument was changed", e)
	}
	clear(ct)
	clear(ek)
	if !bytes.Equal(dk, keptDk) {
		t.Error("the keys share memory")
	}
}

// R3: slices with room behind their end are not written to.
func TestKemRoom(t *testing.T) {
	draw := rand.New(rand.NewSource(26))
	ek, dk := keyPair(t, draw)
	_, ct, e := Encaps(ek, drawn32(draw))
	mustBeOK(t, e)
	roomy := func(b []byte) []byte { return refJoin(b, bytes.Repeat([]byte{0x5a}, 4000))[:len(b)] }
	ek, dk, ct = roomy(ek), roomy(dk), roomy(ct)
	_, _, e = Encaps(ek, [32]byte{})
	mustBeOK(t, e)
	_, e = Decaps(dk, ct)
	mustBeOK(t, e)
	_, e = PkeDecrypt(roomy(dk[:1152]), ct)
	mustBeOK(t, e)
	for _, b := range [][]byte{ek, dk, ct} {
		if room := b[len(b) : len(b)+4000]; !bytes.Equal(room, bytes.Repeat([]byte{0x5a}, 4000)) {
			t.Errorf("behind %d bytes: %x", len(b), room)
		}
	}
}

// R4: the same calls return the same, whatever was called between them.
func TestKemAgain(t *testing.T) {
	var d, z, m [32]byte
	binary.BigEndian.PutUint64(d[:], 1)
	binary.BigEndian.PutUint64(m[:], 2)
	ek, dk, e := KeyGen(d, z)
	mustBeOK(t, e)
	key, ct, e := Encaps(ek, m)
	mustBeOK(t, e)
	for range 3 {
		KeyGen(m, d)
		Encaps(nil, d)
		Decaps(dk, make([]byte, 1088))
		againEk, againDk, e := KeyGen(d, z)
		mustBeOK(t, e)
		again, againCt, e := Encaps(ek, m)
		mustBeOK(t, e)
		if !bytes.Equal(ek, againEk) || !bytes.Equal(dk, againDk) || key != again || !bytes.Equal(ct, againCt) {
			t.Error("another result")
		}
	}
}
