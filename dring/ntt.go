package dring

import (
	"math/bits"

	"livery/api"
)

const (
	root   = 1753
	degree = 256
	scale  = 8347681 // times 256 it is 1 modulo q: it undoes eight doublings
)

// Ntt returns the transform: at i, the value of a at the root to the power 2 rev(i) + 1, which is the remainder of a modulo X less that power. In each round the remainder of a block modulo X^(2 half) - w^2 is split into those modulo X^half - w and X^half + w.
func Ntt(a api.DPoly) api.DPoly {
	a = Reduce(a)
	w := roots()
	for blocks := 1; blocks < degree; blocks *= 2 {
		half := degree / (2 * blocks)
		for k := range blocks {
			start := 2 * half * k
			for i := start; i < start+half; i++ {
				x, y := a[i], product(w[blocks+k], a[i+half])
				a[i], a[i+half] = sum(x, y), difference(x, y)
			}
		}
	}
	return a
}

// Inv returns the polynomial whose transform is a. It undoes the rounds of Ntt from the last one on, but for a factor of 2 in each.
func Inv(a api.DPoly) api.DPoly {
	a = Reduce(a)
	w := roots()
	for blocks := degree / 2; blocks >= 1; blocks /= 2 {
		half := degree / (2 * blocks)
		for k := range blocks {
			start := 2 * half * k
			for i := start; i < start+half; i++ {
				x, y := a[i], a[i+half]
				// The inverse of block k's root is minus the root of the block that is k-th from the end: hence y - x, and not x - y.
				a[i], a[i+half] = sum(x, y), product(w[2*blocks-1-k], difference(y, x))
			}
		}
	}
	for i, x := range a {
		a[i] = product(x, scale)
	}
	return a
}

// MulNtt returns the product, coefficient by coefficient.
func MulNtt(a, b api.DPoly) api.DPoly {
	a, b = Reduce(a), Reduce(b)
	for i, y := range b {
		a[i] = product(a[i], y)
	}
	return a
}

// roots returns the root to the power rev(i), for each i.
func roots() [degree]int32 {
	var l [degree]int32
	power := int32(1)
	for i := range degree {
		l[rev(i)] = power
		power = product(power, root)
	}
	return l
}

// rev reverses the eight binary digits of i.
func rev(i int) int { return int(bits.Reverse8(uint8(i))) }
