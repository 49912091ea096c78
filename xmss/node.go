package xmss

import (
	"slices"

	"livery/api"
	"livery/octet"
	"livery/wots"
)

// The words of an address that are set here.
const (
	wordType     = 3
	wordLeaf     = 4
	wordHeight   = 5
	wordNode     = 6
	wordSelector = 7
)

// What the selector of a node selects.
const (
	selectKey = iota
	selectLeftMask
	selectRightMask
)

// Node returns the node of left and right.
func Node(x api.Xms, seed []byte, a api.Adrs, left, right []byte) ([]byte, api.Errno) {
	if e := check(x, seed, left, right); e != api.OK {
		return nil, e
	}
	return combine(x, seed, a, left, right), api.OK
}

// Ltree returns the value of the L-tree of a leaf's chain ends.
func Ltree(x api.Xms, seed, ends []byte, leaf uint32) ([]byte, api.Errno) {
	if e := check(x, seed); e != api.OK {
		return nil, e
	}
	if len(ends) != x.Len*x.N {
		return nil, api.ErrArg
	}
	return ltree(x, seed, ends, leaf), api.OK
}

// combine returns the node at an address.
func combine(x api.Xms, seed []byte, a api.Adrs, left, right []byte) []byte {
	key := selected(x, seed, a, selectKey)
	first, _ := octet.Xor(left, selected(x, seed, a, selectLeftMask))
	second, _ := octet.Xor(right, selected(x, seed, a, selectRightMask))
	return wots.H(x, key, octet.Join(first, second))
}

// selected returns the key or a mask of the node at an address.
func selected(x api.Xms, seed []byte, a api.Adrs, selector uint32) []byte {
	a[wordSelector] = selector
	b := wots.Bytes(a)
	return wots.Prf(x, seed, b[:])
}

// ltree returns what is left of the chain ends when they have been combined in pairs, height by height.
func ltree(x api.Xms, seed, ends []byte, leaf uint32) []byte {
	a := api.Adrs{wordType: api.AdrsLtree, wordLeaf: leaf}
	parts := slices.Collect(slices.Chunk(ends, x.N))
	for ; len(parts) > 1; a[wordHeight]++ {
		pairs := len(parts) / 2
		var above [][]byte
		for i := range pairs {
			a[wordNode] = uint32(i)
			above = append(above, combine(x, seed, a, parts[2*i], parts[2*i+1]))
		}
		parts = append(above, parts[2*pairs:]...)
	}
	return parts[0]
}

// inner returns node i of a height above the leaves.
func inner(x api.Xms, seed []byte, height int, i uint32, left, right []byte) []byte {
	a := api.Adrs{wordType: api.AdrsTree, wordHeight: uint32(height - 1), wordNode: i}
	return combine(x, seed, a, left, right)
}

// climb returns the root above leaf i with that value, where path is the leaf's path.
func climb(x api.Xms, seed []byte, i uint32, value, path []byte) []byte {
	for h := range x.H {
		left, right := value, path[h*x.N:(h+1)*x.N]
		if i>>h%2 == 1 {
			left, right = right, left
		}
		value = inner(x, seed, h+1, i>>(h+1), left, right)
	}
	return value
}
