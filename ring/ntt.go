package ring

import (
	"math/bits"

	"livery/api"
)

const (
	root  = 17
	pairs = 128  // of a transform
	scale = 3303 // times 128 it is 1 modulo q: it undoes seven doublings
)

// Ntt returns the transform: the remainders of a modulo X^2 - g(i). In each round the remainder of a block modulo X^(2 half) - w^2 is split into those modulo X^half - w and X^half + w.
func Ntt(a api.Poly) api.Poly {
	a = Reduce(a)
	w := roots()
	for blocks := 1; blocks < pairs; blocks *= 2 {
		half := pairs / blocks
		for k := range blocks {
			start := 2 * half * k
			for i := start; i < start+half; i++ {
				x, y := a[i], product(w[blocks+k], a[i+half])
				a[i], a[i+half] = sum(x, y), difference(x, y)
			}
		}
	}
	return a
}

// Inv returns the polynomial whose transform is a. It undoes the rounds of Ntt from the last one on, but for a factor of 2 in each.
func Inv(a api.Poly) api.Poly {
	a = Reduce(a)
	w := roots()
	for blocks := pairs / 2; blocks >= 1; blocks /= 2 {
		half := pairs / blocks
		for k := range blocks {
			start := 2 * half * k
			for i := start; i < start+half; i++ {
				x, y := a[i], a[i+half]
				// The inverse of block k's root is minus the root of the block that is k-th from the end: hence y - x, and not x - y.
				a[i], a[i+half] = sum(x, y), product(w[2*blocks-1-k], difference(y, x))
			}
		}
	}
	for i, x := range a {
		a[i] = product(x, scale)
	}
	return a
}

// MulNtt returns, pair by pair, the product modulo X^2 - g(i).
func MulNtt(a, b api.Poly) api.Poly {
	var c api.Poly
	for i, w := range roots() {
		g := product(root, product(w, w))
		a0, a1, b0, b1 := a[2*i], a[2*i+1], b[2*i], b[2*i+1]
		c[2*i] = sum(product(a0, b0), product(g, product(a1, b1)))
		c[2*i+1] = sum(product(a0, b1), product(a1, b0))
	}
	return c
}

// roots returns 17 to the power rev(i), for each i.
func roots() [pairs]uint16 {
	var l [pairs]uint16
	power := uint16(1)
	for i := range pairs {
		l[rev(i)] = power
		power = product(power, root)
	}
	return l
}

// rev reverses the seven binary digits of i.
func rev(i int) int { return int(bits.Reverse8(uint8(i)) >> 1) }
