package ring

import (
	"math/bits"

	"livery/api"
	"livery/keccak"
)

const (
	seedLen  = 34
	groups   = 1024 // that are read at most
	groupLen = 3    // bytes of two integers
	perEta   = 64   // bytes of what Cbd is made of, for each bit that it counts
)

// SampleNtt returns a transform that is made of the output of SHAKE128.
func SampleNtt(seed []byte) (api.Poly, api.Errno) {
	if len(seed) != seedLen {
		return api.Poly{}, api.ErrArg
	}
	return sampled(keccak.Shake128(seed).Read)
}

// sampled returns the polynomial of the first integers less than q, of two in each group of bytes that is read.
func sampled(read func(n int) ([]byte, api.Errno)) (api.Poly, api.Errno) {
	var a api.Poly
	count := 0
sampling:
	for range groups {
		g, e := read(groupLen)
		if e != api.OK {
			return api.Poly{}, e
		}
		b0, b1, b2 := uint16(g[0]), uint16(g[1]), uint16(g[2])
		for _, x := range [...]uint16{b0 + 256*(b1%16), b1/16 + 16*b2} {
			if x >= q {
				continue
			}
			a[count] = x
			count++
			if count == len(a) {
				break sampling
			}
		}
	}
	if count < len(a) {
		return api.Poly{}, api.ErrSample
	}
	return a, api.OK
}

// Cbd returns small coefficients: each is the number of ones among eta bits, minus that among the next eta ones.
func Cbd(eta int, b []byte) (api.Poly, api.Errno) {
	if eta != 2 && eta != 3 || len(b) != perEta*eta {
		return api.Poly{}, api.ErrArg
	}
	a := unpacked(2*eta, b)
	for i, x := range a {
		a[i] = difference(ones(low(eta, x)), ones(x>>eta))
	}
	return a, api.OK
}

// ones returns the number of ones among the bits of x.
func ones(x uint16) uint16 { return uint16(bits.OnesCount16(x)) }
