package hss

import (
	"livery/api"
	"livery/lms"
	"livery/octet"
	"livery/param"
)

const (
	intLen   = 4          // bytes of the integers of keys and signatures: numbers of levels, and codes
	codesLen = 2 * intLen // bytes of the codes that a public key begins with
)

// Levels returns the levels with which a signature was made.
func Levels(pub, sig []byte) ([]api.Level, api.Errno) {
	parts, e := partsOf(pub, sig)
	if e != api.OK {
		return nil, e
	}
	return levelsOf(parts), api.OK
}

// Index returns the index that a signature names.
func Index(pub, sig []byte) (uint64, api.Errno) {
	parts, e := partsOf(pub, sig)
	if e != api.OK {
		return 0, e
	}
	return indexOf(parts)
}

// Verify tells whether a signature of the message is valid under a public key.
func Verify(pub, msg, sig []byte) api.Errno {
	parts, e := partsOf(pub, sig)
	if e != api.OK {
		return e
	}
	if _, e := indexOf(parts); e != api.OK {
		return e
	}
	for i, p := range parts {
		signed := msg
		if i+1 < len(parts) {
			signed = parts[i+1].key
		}
		if lms.Verify(p.key, signed, p.sig) != api.OK {
			return api.ErrSig
		}
	}
	return api.OK
}

// part is what there is of a level.
type part struct {
	sets
	key []byte // the public key above it
	sig []byte // the signature under that key
}

// partsOf returns the parts of a signature, the top one first, if by their codes and lengths they are those of valid levels.
func partsOf(pub, sig []byte) ([]part, api.Errno) {
	n, key, ok := splitPub(pub)
	if !ok {
		return nil, api.ErrPub
	}
	below, rest, ok := cut(sig, intLen)
	if !ok || intOf(below) != n-1 {
		return nil, api.ErrSig
	}
	parts, ok := splitSig(key, rest, int(n))
	if !ok || May(levelsOf(parts)) != api.OK {
		return nil, api.ErrSig
	}
	return parts, api.OK
}

// splitPub returns the number of levels and the public key of the first tree, and whether by their ranges, codes and lengths they can be these.
func splitPub(pub []byte) (n uint32, key []byte, ok bool) {
	count, key, ok := cut(pub, intLen)
	if !ok || len(key) < codesLen {
		return 0, nil, false
	}
	n = intOf(count)
	s := setsOf(levelOf(key))
	return n, key, 1 <= n && n <= api.MaxLevels && s.fit() && len(key) == param.LmsPub(s.lms)
}

// splitSig returns the n parts of what follows the number of levels in a signature, and whether they are all of it.
func splitSig(key, rest []byte, n int) (parts []part, ok bool) {
levels:
	for i := range n {
		if i > 0 {
			if key, rest, ok = cut(rest, keyLen(rest)); !ok {
				break levels
			}
		}
		p := part{sets: setsOf(levelOf(key)), key: key}
		if p.sig, rest, ok = cut(rest, param.LmsLen(p.lms, p.ots)); !ok {
			break levels
		}
		parts = append(parts, p)
	}
	return parts, ok && len(rest) == 0
}

// keyLen returns the length of the public key that b begins with, by its code; 0 if that is none.
func keyLen(b []byte) int {
	code, _, ok := cut(b, intLen)
	if !ok {
		return 0
	}
	l, _ := param.Lms(intOf(code))
	return param.LmsPub(l)
}

// levelOf returns the codes that a public key begins with.
func levelOf(key []byte) api.Level {
	return api.Level{Lms: intOf(key[:intLen]), Ots: intOf(key[intLen:codesLen])}
}

// levelsOf returns the levels of all parts.
func levelsOf(parts []part) []api.Level {
	l := make([]api.Level, len(parts))
	for i, p := range parts {
		l[i] = p.level()
	}
	return l
}

// indexOf returns the index with the leaves that the parts name.
func indexOf(parts []part) (uint64, api.Errno) {
	var index uint64
	for _, p := range parts {
		q, e := lms.Index(p.sig)
		if e != api.OK || !p.hasLeaf(q) {
			return 0, api.ErrSig
		}
		index = index*p.leaves() + uint64(q)
	}
	return index, api.OK
}

// cut returns the first n bytes and those after them, and whether there are as many and n is not 0, the length of what has none.
func cut(b []byte, n int) (first, rest []byte, ok bool) {
	if n < 1 || n > len(b) {
		return nil, nil, false
	}
	return b[:n], b[n:], true
}

// intOf returns the integer in intLen bytes.
func intOf(b []byte) uint32 {
	n, _ := octet.BigOf(b)
	return uint32(n)
}
