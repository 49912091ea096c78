package hbs

import (
	"livery/api"
	"livery/octet"
	"livery/sha2"
)

const (
	intLen  = 4  // bytes of the integers of public keys and encodings: numbers, and codes
	kindLen = 1  // bytes of the kind that an encoding begins with
	idLen   = 16 // bytes of Id
)

// What the parts of secrets are derived from a draw by.
const (
	nameId   = "livery id"
	nameSeed = "livery seed"
	namePrf  = "livery prf"
	namePub  = "livery pub"
)

// kind is what both kinds of keys have in common. Secrets and public keys that come to it are of this kind; all secrets but those that come to valid are valid.
type kind interface {
	made(levels []api.Level, xmss, number uint32, draw [64]byte) (api.Secret, api.Errno)
	valid(s api.Secret) bool
	encode(s api.Secret) []byte
	decode(take func(n int) []byte) api.Secret // what it returns may not be valid
	count(s api.Secret) uint64
	length(s api.Secret) int
	public(s api.Secret) ([]byte, api.Errno)
	sign(s api.Secret, index uint64, msg []byte) ([]byte, api.Errno)
	numberAt(pub []byte) int
	index(pub, sig []byte) (uint64, api.Errno)
	verify(pub, msg, sig []byte) api.Errno
}

// kindOf returns the kind with that code.
func kindOf(code int) (kind, api.Errno) {
	switch code {
	case api.HbsHss:
		return hssKind{}, api.OK
	case api.HbsXmss:
		return xmssKind{}, api.OK
	}
	return nil, api.ErrArg
}

// kindOfPub returns the kind of a public key.
func kindOfPub(pub []byte) kind {
	k, _ := kindOf(Kind(pub))
	return k
}

// checked returns the kind of secrets, if they are valid.
func checked(s api.Secret) (kind, api.Errno) {
	k, e := kindOf(s.Kind)
	if e != api.OK {
		return nil, e
	}
	if !k.valid(s) {
		return nil, api.ErrSecret
	}
	return k, api.OK
}

// derive returns the n bytes of a draw that have this name.
func derive(draw [64]byte, name string, n int) []byte {
	b, _ := sha2.Expand(draw[:], []byte(name), n)
	return b
}

// numbered returns n bytes: a key's number, and what a draw yields by this name.
func numbered(number uint32, draw [64]byte, name string, n int) []byte {
	return octet.Join(octet.U32(number), derive(draw, name, n-intLen))
}

// intOf returns the integer in intLen bytes.
func intOf(b []byte) uint32 {
	n, _ := octet.BigOf(b)
	return uint32(n)
}

// decoder has the bytes that were not taken yet.
type decoder struct{ rest []byte }

// take returns the next n bytes. Zeros stand for missing ones: what is decoded then has a longer encoding than was given.
func (d *decoder) take(n int) []byte {
	b := make([]byte, n)
	d.rest = d.rest[copy(b, d.rest):]
	return b
}
