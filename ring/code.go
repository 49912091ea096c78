package ring

import "livery/api"

const (
	mostBits = 12      // of an encoded coefficient: the first number of bits that all integers below q fit in
	perBit   = 256 / 8 // bytes of an encoded polynomial for each bit of a coefficient
	canonLen = perBit * mostBits
)

// Compress returns each coefficient as an integer of d bits: it is scaled from q to 2^d.
func Compress(d int, a api.Poly) (api.Poly, api.Errno) {
	if d < 1 || d >= mostBits {
		return api.Poly{}, api.ErrArg
	}
	for i, x := range Reduce(a) {
		a[i] = low(d, uint16((uint32(x)<<d+q/2)/q))
	}
	return a, api.OK
}

// Decompress returns each integer of d bits as a coefficient: it is scaled from 2^d to q.
func Decompress(d int, a api.Poly) (api.Poly, api.Errno) {
	if d < 1 || d >= mostBits {
		return api.Poly{}, api.ErrArg
	}
	half := uint32(1) << (d - 1) // which is what rounds halves up
	for i, y := range a {
		a[i] = uint16((q*uint32(low(d, y)) + half) >> d)
	}
	return a, api.OK
}

// Encode returns the coefficients in d bits each.
func Encode(d int, a api.Poly) ([]byte, api.Errno) {
	if d < 1 || d > mostBits {
		return nil, api.ErrArg
	}
	if d == mostBits {
		a = Reduce(a)
	}
	return packed(d, a), api.OK
}

// Decode returns the polynomial with the coefficients in d bits each.
func Decode(d int, b []byte) (api.Poly, api.Errno) {
	if d < 1 || d > mostBits || len(b) != perBit*d {
		return api.Poly{}, api.ErrArg
	}
	a := unpacked(d, b)
	if d == mostBits {
		a = Reduce(a)
	}
	return a, api.OK
}

// Canon tells whether b is what Encode returns, with 12 bits, for some polynomial.
func Canon(b []byte) bool {
	if len(b) != canonLen {
		return false
	}
	a := unpacked(mostBits, b)
	return a == Reduce(a)
}

// low returns the d least significant bits of x.
func low(d int, x uint16) uint16 { return x & (1<<d - 1) }

// packed returns the d least significant bits of each integer, least significant bit first.
func packed(d int, a api.Poly) []byte {
	b := make([]byte, 0, perBit*d)
	var rest uint32
	count := 0 // bits of rest
	for _, x := range a {
		rest |= uint32(low(d, x)) << count
		for count += d; count >= 8; count -= 8 {
			b = append(b, byte(rest))
			rest >>= 8
		}
	}
	return b
}

// unpacked returns the integers of d bits in b, of which there are 256.
func unpacked(d int, b []byte) api.Poly {
	var a api.Poly
	var rest uint32
	count := 0 // bits of rest
	for i := range a {
		for ; count < d; count += 8 {
			rest |= uint32(b[0]) << count
			b = b[1:]
		}
		a[i] = low(d, uint16(rest))
		rest >>= d
		count -= d
	}
	return a
}
