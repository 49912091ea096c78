package wots

import (
	"livery/api"
	"livery/keccak"
	"livery/octet"
	"livery/param"
	"livery/sha2"
)

// The numbers of the keyed hashes, which keep them apart.
const (
	numberF byte = iota
	numberH
	numberHMsg
	numberPrf
	numberPrfKeygen
)

const (
	strength  = 256 // of SHAKE
	shortN    = 24  // bytes of the hashes whose number is short
	shortSize = 4   // bytes of a short number
	longSize  = 32  // and of any other one
	wordSize  = 4   // bytes of a word of an address
)

// F returns the keyed hash with the number 0: that of a step of a chain.
func F(x api.Xms, key, m []byte) []byte { return sum(x, numberF, key, m) }

// H returns the keyed hash with the number 1: that of a node of a tree.
func H(x api.Xms, key, m []byte) []byte { return sum(x, numberH, key, m) }

// HMsg returns the keyed hash with the number 2: that of a message.
func HMsg(x api.Xms, key, m []byte) []byte { return sum(x, numberHMsg, key, m) }

// Prf returns the keyed hash with the number 3: that of an address.
func Prf(x api.Xms, key, m []byte) []byte { return sum(x, numberPrf, key, m) }

// PrfKeygen returns the keyed hash with the number 4: that of which the secrets are made.
func PrfKeygen(x api.Xms, key, m []byte) []byte { return sum(x, numberPrfKeygen, key, m) }

// Bytes returns the words of an address, most significant byte first.
func Bytes(a api.Adrs) [32]byte {
	var b [32]byte
	for i, word := range a {
		copy(b[wordSize*i:], octet.U32(word))
	}
	return b
}

// isSet tells whether x is a parameter set.
func isSet(x api.Xms) bool {
	known, e := param.Xmss(x.Code)
	return e == api.OK && x == known
}

// sum returns the keyed hash with that number; nothing if x is no set.
func sum(x api.Xms, number byte, key, m []byte) []byte {
	if !isSet(x) {
		return nil
	}
	return keyed(x, number, key)(m)
}

// keyedHash returns the hash of m, with the number and the key that it was built for.
type keyedHash func(m []byte) []byte

// of returns the hash of an address.
func (f keyedHash) of(a api.Adrs) []byte {
	b := Bytes(a)
	return f(b[:])
}

// keyed builds a keyed hash, where x is known to be a set.
func keyed(x api.Xms, number byte, key []byte) keyedHash {
	size := longSize
	if x.N == shortN {
		size = shortSize
	}
	head := octet.Join(make([]byte, size-1), []byte{number}, key)
	if x.Shake {
		return func(m []byte) []byte {
			b, _ := keccak.Shake(strength, x.N, head, m)
			return b
		}
	}
	// With 32 bytes the head is just one block, which is compressed once however often the hash is called.
	begun := sha2.New()
	begun.Write(head)
	return func(m []byte) []byte {
		h := begun.Clone()
		h.Write(m)
		b := h.Sum()
		return b[:x.N]
	}
}
