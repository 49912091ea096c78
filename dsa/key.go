package dsa

import (
	"livery/api"
	"livery/dring"
	"livery/octet"
	"livery/raise"
)

const (
	eta     = 4                   // coefficients of s and e are from -eta to eta
	etaBits = 4                   // of such a coefficient in a secret key
	t0Top   = 1 << (api.DLow - 1) // coefficients of t0 are up to this one
	t1Bits  = 10                  // of a coefficient of t1 in a public key, which rho begins

	rhoLen   = 32
	sigmaLen = 64
	kLen     = 32
)

// The offsets in a secret key, which rho begins, too.
const (
	atK    = rhoLen
	atHash = atK + kLen
	atS    = atHash + hashLen
	atE    = atS + columns*polyLen*etaBits
	atT0   = atE + rows*polyLen*etaBits
)

// Here the names of vectors are the chapter's; e is noise, and not an error.

// pair returns the public key and the secret key that are made of xi.
func pair(xi [32]byte) (pk, sk []byte) {
	seeds := hash(rhoLen+sigmaLen+kLen, xi[:], []byte{rows, columns})
	rho, sigma, k := seeds[:rhoLen], seeds[rhoLen:rhoLen+sigmaLen], seeds[rhoLen+sigmaLen:]
	s, e := noises[five](sigma, 0), noises[six](sigma, columns)
	t := matrixOf(rho).times(s)
	var t1, t0 six
	for r := range rows {
		t1[r], t0[r] = dring.Power2Round(dring.Add(t[r], e[r]))
	}
	pk = octet.Join(rho, packed(t1Bits, t1))
	vectors := octet.Join(packedFrom(eta, etaBits, s), packedFrom(eta, etaBits, e), packedFrom(t0Top, api.DLow, t0))
	return pk, octet.Join(rho, k, hash(hashLen, pk), vectors)
}

// noises returns the polynomials that sigma and the numbers from first on make.
func noises[V vector](sigma []byte, first int) V {
	var v V
	for i := range len(v) {
		v[i] = raise.Sure(dring.RejBounded(eta, octet.Join(sigma, number(first+i))))
	}
	return v
}

// number returns n in two bytes.
func number(n int) []byte { return raise.Sure(octet.Little(uint64(n), 2)) }

// secret is a secret key. Its vectors are transforms, because each attempt multiplies them with another c.
type secret struct {
	rho, k []byte
	hash   []byte // of the public key
	s      five
	e, t0  six
}

// secretOf returns what sk consists of.
func secretOf(sk []byte) secret {
	raise.Unless(len(sk) == api.DsaSk, api.ErrSk)
	s, e := unpackedFrom[five](eta, etaBits, sk[atS:]), unpackedFrom[six](eta, etaBits, sk[atE:])
	raise.Unless(below(s, eta+1) && below(e, eta+1), api.ErrSk)
	return secret{
		rho:  sk[:rhoLen],
		k:    sk[atK:atHash],
		hash: sk[atHash:atS],
		s:    transforms(s),
		e:    transforms(e),
		t0:   transforms(unpackedFrom[six](t0Top, api.DLow, sk[atT0:])),
	}
}
