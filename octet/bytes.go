package octet

import "livery/api"

// Bits returns the eight bits of each byte, least significant bit first.
func Bits(b []byte) []bool {
	l := make([]bool, 0, 8*len(b))
	for _, x := range b {
		for i := range 8 {
			l = append(l, x>>i&1 == 1)
		}
	}
	return l
}

// FromBits returns the bytes that have the bits l; zero bits fill the last byte.
func FromBits(l []bool) []byte {
	b := make([]byte, (len(l)+7)/8)
	for i, bit := range l {
		if bit {
			b[i/8] |= 1 << (i % 8)
		}
	}
	return b
}

// Join returns the bytes of all parts, one part after the other.
func Join(parts ...[]byte) []byte {
	size := 0
	for _, p := range parts {
		size += len(p)
	}
	b := make([]byte, 0, size)
	for _, p := range parts {
		b = append(b, p...)
	}
	return b
}

// Same tells whether a and b are equal.
func Same(a, b []byte) bool {
	if len(a) != len(b) {
		return false
	}
	// The loop does not stop at a difference: its time would tell where that is.
	var differ byte
	for i, x := range a {
		differ |= x ^ b[i]
	}
	return differ == 0
}

// Choose returns a copy of a if first is true, and of b if not.
func Choose(first bool, a, b []byte) ([]byte, api.Errno) {
	if len(a) != len(b) {
		return nil, api.ErrArg
	}
	var mask byte
	if first {
		mask = 0xFF
	}
	// Every byte of both is read, so that the time does not tell the choice.
	c := make([]byte, len(a))
	for i, x := range a {
		c[i] = x&mask | b[i]&^mask
	}
	return c, api.OK
}

// Xor returns the bytewise exclusive or of a and b.
func Xor(a, b []byte) ([]byte, api.Errno) {
	if len(a) != len(b) {
		return nil, api.ErrArg
	}
	c := make([]byte, len(a))
	for i, x := range a {
		c[i] = x ^ b[i]
	}
	return c, api.OK
}
