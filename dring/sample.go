package dring

import (
	"livery/api"
	"livery/keccak"
)

const (
	nttSeed  = 34 // bytes of RejNtt's seed
	maskSeed = 66 // of Mask's, and of RejBounded's
	signsLen = 8
	mostTau  = 8 * signsLen // each coefficient of Ball that is not 0 has a sign

	readable = 1024 // groups for RejNtt, or bytes for the others, that are read at most
	groupLen = 3    // bytes of a group

	// An output is read in pieces: most of them are hardly ever needed.
	pieces   = 16
	pieceLen = readable / pieces // groups, or bytes
)

// reader returns the next n bytes of an output.
type reader func(n int) ([]byte, api.Errno)

// RejNtt returns a transform that is made of the output of SHAKE128.
func RejNtt(seed []byte) (api.DPoly, api.Errno) {
	if len(seed) != nttSeed {
		return api.DPoly{}, api.ErrArg
	}
	return uniform(keccak.Shake128(seed).Read)
}

// uniform returns the polynomial of the first integers less than q, of one in each group of bytes that is read.
func uniform(read reader) (api.DPoly, api.Errno) {
	var a api.DPoly
	count := 0
sampling:
	for range pieces {
		b, e := read(groupLen * pieceLen)
		if e != api.OK {
			return api.DPoly{}, e
		}
		for ; len(b) > 0; b = b[groupLen:] {
			x := int32(b[0]) + int32(b[1])<<8 + int32(b[2]%128)<<16
			if x >= q {
				continue
			}
			a[count] = x
			count++
			if count == degree {
				break sampling
			}
		}
	}
	if count < degree {
		return api.DPoly{}, api.ErrSample
	}
	return a, api.OK
}

// RejBounded returns coefficients from -eta to eta, modulo q, that are made of the output of SHAKE256.
func RejBounded(eta int, seed []byte) (api.DPoly, api.Errno) {
	if eta != 2 && eta != 4 || len(seed) != maskSeed {
		return api.DPoly{}, api.ErrArg
	}
	return bounded(int32(eta), keccak.Shake256(seed).Read)
}

// bounded returns the polynomial that the first half bytes less than the limit make. The limit is a multiple of the number of values, so that none is more frequent than another.
func bounded(eta int32, read reader) (api.DPoly, api.Errno) {
	values := 2*eta + 1
	limit := 16 - 16%values
	var a api.DPoly
	count := 0
sampling:
	for range pieces {
		b, e := read(pieceLen)
		if e != api.OK {
			return api.DPoly{}, e
		}
		for _, x := range b {
			for _, h := range [...]int32{int32(x % 16), int32(x / 16)} {
				if h >= limit {
					continue
				}
				a[count] = residue(eta - h%values)
				count++
				if count == degree {
					break sampling
				}
			}
		}
	}
	if count < degree {
		return api.DPoly{}, api.ErrSample
	}
	return a, api.OK
}

// Mask returns coefficients of that many bits, also negative ones, that are made of the output of SHAKE256.
func Mask(bits int, seed []byte) (api.DPoly, api.Errno) {
	if bits != 18 && bits != 20 || len(seed) != maskSeed {
		return api.DPoly{}, api.ErrArg
	}
	b, e := keccak.Shake(256, perBit*bits, seed)
	if e != api.OK {
		return api.DPoly{}, e
	}
	return UnpackFrom(1<<(bits-1), bits, b)
}

// Ball returns a polynomial that is made of the output of SHAKE256: tau coefficients are 1 or -1, modulo q, and all others 0.
func Ball(tau int, seed []byte) (api.DPoly, api.Errno) {
	if tau < 1 || tau > mostTau {
		return api.DPoly{}, api.ErrArg
	}
	return ball(tau, keccak.Shake256(seed).Read)
}

// ball shuffles tau signs in: each of the last tau positions, in turn, takes over the coefficient of a position up to its own that is read, and a sign is put there instead.
func ball(tau int, read reader) (api.DPoly, api.Errno) {
	signs, e := read(signsLen)
	if e != api.OK {
		return api.DPoly{}, e
	}
	var c api.DPoly
	count := 0
sampling:
	for range pieces {
		b, e := read(pieceLen)
		if e != api.OK {
			return api.DPoly{}, e
		}
		for _, j := range b {
			i := degree - tau + count
			if int(j) > i {
				continue
			}
			c[i] = c[j]
			c[j] = signed(signs, count)
			count++
			if count == tau {
				break sampling
			}
		}
	}
	if count < tau {
		return api.DPoly{}, api.ErrSample
	}
	return c, api.OK
}

// signed returns q - 1 if the sign of that number is 1, and otherwise 1.
func signed(signs []byte, n int) int32 {
	if signs[n/8]>>(n%8)&1 == 1 {
		return q - 1
	}
	return 1
}
