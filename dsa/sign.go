package dsa

import (
	"livery/api"
	"livery/dring"
	"livery/octet"
	"livery/raise"
)

// seedLen is how many bytes the polynomials y of all attempts are made of.
const seedLen = 64

// numbered is how many attempts there can be: the number of each polynomial y has two bytes.
const numbered = (1<<16 - 1) / columns

// signature returns what the first attempt makes that does not fail, or raises an error.
func (k secret) signature(mu, seed []byte, most int) []byte {
	m := matrixOf(k.rho)
attempts:
	for i := range min(most, numbered) {
		y := masks(seed, columns*i)
		w := m.times(y)
		ct := commitment(mu, steps(w))
		c := challenge(ct)
		var z five
		for j := range columns {
			z[j] = dring.Add(y[j], product(k.s[j], c))
			if dring.Norm(z[j]) >= zLimit {
				continue attempts
			}
		}
		hints := make([]api.Hint, rows)
		marks := 0
		for r := range rows {
			h, count, ok := correction(dring.Sub(w[r], product(k.e[r], c)), product(k.t0[r], c))
			if !ok {
				continue attempts
			}
			hints[r] = h
			marks += count
		}
		if marks > maxMarks {
			continue attempts
		}
		return octet.Join(ct, packedFrom(zTop, zBits, z), raise.Sure(dring.PackHints(hints, maxMarks)))
	}
	panic(api.ErrCap)
}

// masks returns the polynomials that seed and the numbers from first on make.
func masks(seed []byte, first int) five {
	var y five
	for j := range columns {
		y[j] = raise.Sure(dring.Mask(zBits, octet.Join(seed, number(first+j))))
	}
	return y
}

// steps returns the numbers of the steps of the coefficients of w.
func steps(w six) six {
	for r := range rows {
		w[r], _ = dring.Decompose(w[r])
	}
	return w
}

// correction returns the hints, and their count, by which the steps of a are found without knowing t, the product of t0 with c. It does not return ok if they would not lead there, or if a would tell something of the secret key.
func correction(a, t api.DPoly) (h api.Hint, count int, ok bool) {
	_, low := dring.Decompose(a)
	if dring.Norm(low) >= lowLimit || dring.Norm(t) >= tLimit {
		return api.Hint{}, 0, false
	}
	h, count = dring.MakeHint(dring.Sub(api.DPoly{}, t), dring.Add(a, t))
	return h, count, true
}
