package kem

import (
	"livery/api"
	"livery/keccak"
	"livery/octet"
	"livery/raise"
	"livery/ring"
)

const (
	rank     = 3       // polynomials of a vector
	polyLen  = 256 / 8 // bytes of a polynomial for each bit of its coefficients
	eta      = 2       // coefficients of noise are from -eta to eta
	noiseLen = 64 * eta
)

// vector is also what a row or a column of the matrix is.
type vector [rank]api.Poly

// row returns row i of the matrix of rho.
func row(rho []byte, i int) vector {
	var v vector
	for j := range rank {
		v[j] = element(rho, i, j)
	}
	return v
}

// column returns column j of the matrix of rho.
func column(rho []byte, j int) vector {
	var v vector
	for i := range rank {
		v[i] = element(rho, i, j)
	}
	return v
}

// element returns what the matrix of rho has in row i, column j.
func element(rho []byte, i, j int) api.Poly {
	return raise.Sure(ring.SampleNtt(octet.Join(rho, []byte{byte(j), byte(i)})))
}

// noises returns the vector of the noises of s from that number on.
func noises(s []byte, first int) vector {
	var v vector
	for i := range rank {
		v[i] = noise(s, first+i)
	}
	return v
}

// noise returns noise n of s.
func noise(s []byte, n int) api.Poly {
	return raise.Sure(ring.Cbd(eta, raise.Sure(keccak.Shake(256, noiseLen, s, []byte{byte(n)}))))
}

// transforms returns the transforms of the polynomials of v.
func transforms(v vector) vector {
	for i := range rank {
		v[i] = ring.Ntt(v[i])
	}
	return v
}

// product returns the product of two vectors of transforms.
func product(a, b vector) api.Poly {
	var sum api.Poly
	for i := range rank {
		sum = ring.Add(sum, ring.MulNtt(a[i], b[i]))
	}
	return sum
}

// packed returns the polynomials of v as they are in a key.
func packed(v vector) []byte {
	var b []byte
	for i := range rank {
		b = append(b, raise.Sure(ring.Encode(exactBits, v[i]))...)
	}
	return b
}

// unpacked returns the vector that is in a key.
func unpacked(b []byte) vector {
	var v vector
	for i := range rank {
		v[i] = raise.Sure(ring.Decode(exactBits, piece(exactBits, b, i)))
	}
	return v
}

// canonical tells whether all three pieces of an encryption key are what a polynomial is encoded to.
func canonical(b []byte) bool {
	for i := range rank {
		if !ring.Canon(piece(exactBits, b, i)) {
			return false
		}
	}
	return true
}

// piece returns the bytes in b of polynomial i, with d bits a coefficient.
func piece(d int, b []byte, i int) []byte {
	size := polyLen * d
	return b[i*size : (i+1)*size]
}

// narrowed returns a in d bits a coefficient, which is an approximation.
func narrowed(d int, a api.Poly) []byte {
	return raise.Sure(ring.Encode(d, raise.Sure(ring.Compress(d, a))))
}

// widened returns the polynomial that b approximates in d bits a coefficient.
func widened(d int, b []byte) api.Poly {
	return raise.Sure(ring.Decompress(d, raise.Sure(ring.Decode(d, b))))
}
