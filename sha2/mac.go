package sha2

import "livery/api"

const (
	innerMask = 0x36
	outerMask = 0x5c
)

// Mac returns the HMAC of the concatenated parts.
func Mac(key []byte, parts ...[]byte) [32]byte {
	block := keyBlock(key)
	inner := masked(block, innerMask)
	inner.Write(parts...)
	sum := inner.Sum()
	outer := masked(block, outerMask)
	outer.Write(sum[:])
	return outer.Sum()
}

// keyBlock returns the key, or its hash if it has more bytes than a block, padded with zero bytes.
func keyBlock(key []byte) [blockLen]byte {
	var block [blockLen]byte
	if len(key) > blockLen {
		sum := Sum256(key)
		key = sum[:]
	}
	copy(block[:], key)
	return block
}

// masked returns a Hash that begins with the block, each byte of which is combined with the mask.
func masked(block [blockLen]byte, mask byte) *Hash {
	for i := range block {
		block[i] ^= mask
	}
	h := New()
	h.Write(block[:])
	return h
}

// Extract returns the key that HKDF extracts from ikm. An empty salt needs no care: as a key it is padded with zero bytes anyway.
func Extract(salt, ikm []byte) [32]byte { return Mac(salt, ikm) }

// Expand returns the first n bytes that HKDF derives from prk for info.
func Expand(prk, info []byte, n int) ([]byte, api.Errno) {
	switch {
	case n < 0:
		return nil, api.ErrArg
	case n > api.MaxExpand:
		return nil, api.ErrLong
	}
	okm := make([]byte, 0, n)
	var last []byte
	for i := byte(1); len(okm) < n; i++ {
		t := Mac(prk, last, info, []byte{i})
		last = t[:]
		okm = append(okm, last[:min(sumLen, n-len(okm))]...)
	}
	return okm, api.OK
}
