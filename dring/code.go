package dring

import "livery/api"

const (
	mostBits = 23         // of an encoded coefficient: the first number of bits that all integers below q fit in
	perBit   = degree / 8 // bytes of an encoded polynomial for each bit of a coefficient
)

// Pack returns the coefficients in that many bits each.
func Pack(bits int, a api.DPoly) ([]byte, api.Errno) {
	a = Reduce(a)
	if !mayBits(bits) || a != lowest(bits, a) {
		return nil, api.ErrArg
	}
	return packed(bits, a), api.OK
}

// Unpack returns the integers as they were encoded.
func Unpack(bits int, b []byte) (api.DPoly, api.Errno) {
	if !mayBits(bits) || len(b) != perBit*bits {
		return api.DPoly{}, api.ErrArg
	}
	return unpacked(bits, b), api.OK
}

// PackFrom returns, in that many bits each, how far below top the centered coefficients are.
func PackFrom(top int32, bits int, a api.DPoly) ([]byte, api.Errno) {
	if !mayBits(bits) {
		return nil, api.ErrArg
	}
	for i, x := range Center(a) {
		below := int64(top) - int64(x)
		if below < 0 || below >= 1<<bits {
			return nil, api.ErrArg
		}
		a[i] = int32(below)
	}
	return packed(bits, a), api.OK
}

// UnpackFrom returns the integers that are as far below top as is encoded.
func UnpackFrom(top int32, bits int, b []byte) (api.DPoly, api.Errno) {
	a, e := Unpack(bits, b)
	if e != api.OK || top < 0 || top >= q {
		return api.DPoly{}, api.ErrArg
	}
	for i, below := range a {
		a[i] = top - below
	}
	return a, api.OK
}

// mayBits tells whether coefficients may be encoded in that many bits.
func mayBits(bits int) bool { return bits >= 1 && bits <= mostBits }

// lowest returns the least significant bits of each coefficient.
func lowest(bits int, a api.DPoly) api.DPoly {
	for i := range a {
		a[i] &= 1<<bits - 1
	}
	return a
}

// packed returns integers less than 2^bits, least significant bit first.
func packed(bits int, a api.DPoly) []byte {
	b := make([]byte, 0, perBit*bits)
	var rest uint32
	count := 0 // bits of rest
	for _, x := range a {
		rest |= uint32(x) << count
		for count += bits; count >= 8; count -= 8 {
			b = append(b, byte(rest))
			rest >>= 8
		}
	}
	return b
}

// unpacked returns the integers in b, of which there are 256.
func unpacked(bits int, b []byte) api.DPoly {
	var a api.DPoly
	var rest uint32
	count := 0 // bits of rest
	for i := range a {
		for ; count < bits; count += 8 {
			rest |= uint32(b[0]) << count
			b = b[1:]
		}
		a[i] = int32(rest & (1<<bits - 1))
		rest >>= bits
		count -= bits
	}
	return a
}
