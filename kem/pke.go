package kem

import (
	"livery/api"
	"livery/keccak"
	"livery/octet"
	"livery/raise"
	"livery/ring"
)

const (
	exactBits = 12 // of a coefficient in a key
	uBits     = 10 // of one in the first part of a ciphertext
	vBits     = 4  // of one in its second part
	textBits  = 1  // of one in a text

	atRho = rank * polyLen * exactBits // the offset of rho in an encryption key
	atV   = rank * polyLen * uBits     // of the second part in a ciphertext
)

// PkeKey returns an encryption key and a decryption key of K-PKE.
func PkeKey(d [32]byte) (ek, dk []byte, e api.Errno) {
	defer func() { e = raise.Error(recover()) }()
	public, secret := pair(d)
	return public, secret, api.OK
}

// PkeEncrypt returns the ciphertext of m that r leads to.
func PkeEncrypt(ek []byte, m, r [32]byte) (ct []byte, e api.Errno) {
	defer func() { e = raise.Error(recover()) }()
	raise.Unless(len(ek) == api.KemEk, api.ErrEk)
	return encrypted(ek, m, r), api.OK
}

// PkeDecrypt returns the text of a ciphertext.
func PkeDecrypt(dk, ct []byte) (m [32]byte, e api.Errno) {
	defer func() { e = raise.Error(recover()) }()
	raise.Unless(len(dk) == api.PkeDk, api.ErrDk)
	raise.Unless(len(ct) == api.KemCt, api.ErrCt)
	return decrypted(dk, ct), api.OK
}

// Here the names of vectors and polynomials are the chapter's; e is noise, and not an error.

// pair returns the encryption key and the decryption key that are made of d.
func pair(d [32]byte) (ek, dk []byte) {
	seeds := keccak.Sha3512(d[:], []byte{rank})
	rho, sigma := seeds[:32], seeds[32:]
	s := transforms(noises(sigma, 0))
	e := transforms(noises(sigma, rank))
	var t vector
	for i := range rank {
		t[i] = ring.Add(product(row(rho, i), s), e[i])
	}
	return octet.Join(packed(t), rho), packed(s)
}

// encrypted returns the ciphertext of m, for a key of its length.
func encrypted(ek []byte, m, r [32]byte) []byte {
	t, rho := unpacked(ek[:atRho]), ek[atRho:]
	y := transforms(noises(r[:], 0))
	e, f := noises(r[:], rank), noise(r[:], 2*rank)
	var u vector
	for i := range rank {
		u[i] = ring.Add(ring.Inv(product(column(rho, i), y)), e[i])
	}
	v := ring.Add(ring.Inv(product(t, y)), ring.Add(f, widened(textBits, m[:])))
	var b []byte
	for i := range rank {
		b = append(b, narrowed(uBits, u[i])...)
	}
	return append(b, narrowed(vBits, v)...)
}

// decrypted returns the text of a ciphertext, for a key and a ciphertext of their lengths.
func decrypted(dk, ct []byte) [32]byte {
	s := unpacked(dk)
	var u vector
	for i := range rank {
		u[i] = widened(uBits, piece(uBits, ct[:atV], i))
	}
	v := widened(vBits, ct[atV:])
	return [32]byte(narrowed(textBits, ring.Sub(v, ring.Inv(product(s, transforms(u))))))
}
