package dsa

import (
	"livery/api"
	"livery/dring"
	"livery/raise"
)

// stepsOf returns the numbers of steps that a signature leads to: those that were hashed for it, if it belongs to the key. It raises an error if the signature is malformed.
func stepsOf(pk, sig []byte) six {
	z := unpackedFrom[five](zTop, zBits, sig[atZ:])
	raise.Unless(below(z, zLimit), api.ErrSig)
	hints, malformed := dring.UnpackHints(rows, maxMarks, sig[atHints:])
	raise.Unless(malformed == api.OK, api.ErrSig)
	t1 := unpacked[six](t1Bits, pk[rhoLen:])
	c := challenge(sig[:ctLen])
	w := matrixOf(pk[:rhoLen]).times(z)
	for r := range rows {
		w[r] = dring.UseHint(hints[r], dring.Sub(w[r], product(dring.Ntt(whole(t1[r])), c)))
	}
	return w
}

// whole returns the polynomial of which Power2Round returns that first part, and 0.
func whole(t1 api.DPoly) api.DPoly {
	for i := range t1 {
		t1[i] <<= api.DLow
	}
	return t1
}
