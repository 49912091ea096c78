package dsa

import (
	"livery/api"
	"livery/dring"
	"livery/octet"
	"livery/raise"
)

const (
	rows    = 6 // of the matrix
	columns = 5
	polyLen = 256 / 8 // bytes of a polynomial for each bit of its coefficients
)

// five is also what a row of the matrix is.
type five [columns]api.DPoly

// six is what the matrix makes of a five.
type six [rows]api.DPoly

// vector is one of either length.
type vector interface{ five | six }

// matrix consists of transforms.
type matrix [rows]five

// matrixOf returns the matrix of rho.
func matrixOf(rho []byte) matrix {
	var m matrix
	for r := range rows {
		for s := range columns {
			m[r][s] = raise.Sure(dring.RejNtt(octet.Join(rho, []byte{byte(s), byte(r)})))
		}
	}
	return m
}

// times returns the product with the matrix.
func (m matrix) times(v five) six {
	v = transforms(v)
	var w six
	for r := range rows {
		var sum api.DPoly
		for s := range columns {
			sum = dring.Add(sum, dring.MulNtt(m[r][s], v[s]))
		}
		w[r] = dring.Inv(sum)
	}
	return w
}

// transforms returns the transforms of the polynomials of v.
func transforms[V vector](v V) V {
	for i := range len(v) {
		v[i] = dring.Ntt(v[i])
	}
	return v
}

// product returns the product of two polynomials, of which the transforms are given.
func product(a, b api.DPoly) api.DPoly { return dring.Inv(dring.MulNtt(a, b)) }

// below tells whether the greatest absolute value of a coefficient of v is less than limit.
func below[V vector](v V, limit int32) bool {
	for i := range len(v) {
		if dring.Norm(v[i]) >= limit {
			return false
		}
	}
	return true
}

// packed returns the polynomials of v, one after the other.
func packed[V vector](bits int, v V) []byte {
	var b []byte
	for i := range len(v) {
		b = append(b, raise.Sure(dring.Pack(bits, v[i]))...)
	}
	return b
}

// unpacked returns the vector of which packed makes b.
func unpacked[V vector](bits int, b []byte) V {
	var v V
	for i := range len(v) {
		v[i] = raise.Sure(dring.Unpack(bits, piece(bits, b, i)))
	}
	return v
}

// packedFrom is likewise for coefficients up to top, also negative ones.
func packedFrom[V vector](top int32, bits int, v V) []byte {
	var b []byte
	for i := range len(v) {
		b = append(b, raise.Sure(dring.PackFrom(top, bits, v[i]))...)
	}
	return b
}

// unpackedFrom returns the vector of which packedFrom makes b.
func unpackedFrom[V vector](top int32, bits int, b []byte) V {
	var v V
	for i := range len(v) {
		v[i] = raise.Sure(dring.UnpackFrom(top, bits, piece(bits, b, i)))
	}
	return v
}

// piece returns the bytes in b of polynomial i.
func piece(bits int, b []byte, i int) []byte {
	size := polyLen * bits
	return b[i*size : (i+1)*size]
}
