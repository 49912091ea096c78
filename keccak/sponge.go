package keccak

import "livery/api"

// The rates, in bytes, and the suffixes that keep hashes and outputs apart.
const (
	rateSha3256  = 136
	rateSha3512  = 72
	rateShake128 = 168
	rateShake256 = 136

	suffixSha3  = 6
	suffixShake = 31
	lastMask    = 128
)

// sponge absorbs bytes into the first bytes of its lanes, the block, and squeezes others from there.
type sponge struct {
	state [lanes]uint64
	rate  int // bytes of the block
	at    int // the place of the next byte in the block
}

// absorbed returns a sponge that has absorbed the parts, with what ends them, and is ready to be squeezed.
func absorbed(rate int, suffix byte, parts ...[]byte) sponge {
	s := sponge{rate: rate}
	for _, p := range parts {
		s.absorb(p)
	}
	s.absorb([]byte{suffix})
	s.mask(rate-1, lastMask)
	s.at = rate // so that the block is permuted ahead of the first byte that is squeezed
	return s
}

func (s *sponge) absorb(part []byte) {
	for _, b := range part {
		s.mask(s.next(), b)
	}
}

// squeezed returns the next n bytes of the output.
func (s *sponge) squeezed(n int) []byte {
	b := make([]byte, n)
	for i := range b {
		at := s.next()
		b[i] = byte(s.state[at/laneLen] >> shift(at))
	}
	return b
}

// next returns the place of the next byte; if the block has no more, the state is permuted first.
func (s *sponge) next() int {
	if s.at == s.rate {
		s.state = Permute(s.state)
		s.at = 0
	}
	s.at++
	return s.at - 1
}

// mask combines the byte at that place of the block with b.
func (s *sponge) mask(at int, b byte) { s.state[at/laneLen] ^= uint64(b) << shift(at) }

// shift returns how many bits of its lane are below the byte at that place.
func shift(at int) int { return 8 * (at % laneLen) }

// Sha3256 returns the SHA3-256 hash of the concatenated parts.
func Sha3256(parts ...[]byte) [32]byte {
	s := absorbed(rateSha3256, suffixSha3, parts...)
	return [32]byte(s.squeezed(32))
}

// Sha3512 returns the SHA3-512 hash of the concatenated parts.
func Sha3512(parts ...[]byte) [64]byte {
	s := absorbed(rateSha3512, suffixSha3, parts...)
	return [64]byte(s.squeezed(64))
}

// Shake returns the first n bytes of the output of SHAKE128 or SHAKE256.
func Shake(bits, n int, parts ...[]byte) ([]byte, api.Errno) {
	switch bits {
	case 128:
		return Shake128(parts...).Read(n)
	case 256:
		return Shake256(parts...).Read(n)
	}
	return nil, api.ErrArg
}

// Xof is a reader of the output of SHAKE128 or SHAKE256.
type Xof struct {
	made   bool
	sponge sponge
	count  int
}

// Shake128 returns a reader of the output of SHAKE128 for the concatenated parts.
func Shake128(parts ...[]byte) *Xof {
	return &Xof{made: true, sponge: absorbed(rateShake128, suffixShake, parts...)}
}

// Shake256 returns a reader of the output of SHAKE256 for the concatenated parts.
func Shake256(parts ...[]byte) *Xof {
	return &Xof{made: true, sponge: absorbed(rateShake256, suffixShake, parts...)}
}

// Read returns the next n bytes.
func (x *Xof) Read(n int) ([]byte, api.Errno) {
	switch {
	case !x.isMade():
		return nil, api.ErrMade
	case n < 0:
		return nil, api.ErrArg
	case n > api.MaxSqueeze:
		return nil, api.ErrLong
	}
	x.count += n
	return x.sponge.squeezed(n), api.OK
}

// Count returns the number of bytes read so far.
func (x *Xof) Count() int {
	if !x.isMade() {
		return 0
	}
	return x.count
}

// Clone returns an independent reader that continues at the same position.
func (x *Xof) Clone() *Xof {
	if !x.isMade() {
		return nil
	}
	c := *x
	return &c
}

// isMade tells whether Shake128, Shake256 or Clone returned x.
func (x *Xof) isMade() bool { return x != nil && x.made }
