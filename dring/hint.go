package dring

import (
	"bytes"

	"livery/api"
)

const (
	mostHints = 16
	mostMarks = 255 // their count is encoded in one byte
)

// PackHints returns the positions of all marks, padded to most bytes, and how many there are up to each hint's end.
func PackHints(l []api.Hint, most int) ([]byte, api.Errno) {
	if !mayHints(len(l), most) {
		return nil, api.ErrArg
	}
	b := make([]byte, most+len(l))
	count := 0
	for i, h := range l {
		for j := range degree {
			if !h[j] {
				continue
			}
			if count == most {
				return nil, api.ErrLong
			}
			b[count] = byte(j)
			count++
		}
		b[most+i] = byte(count)
	}
	return b, api.OK
}

// UnpackHints returns the n hints of which PackHints makes b.
func UnpackHints(n, most int, b []byte) ([]api.Hint, api.Errno) {
	if !mayHints(n, most) || len(b) != most+n {
		return nil, api.ErrArg
	}
	l := make([]api.Hint, n)
	start := 0
	for i := range n {
		end := int(b[most+i])
		if end < start || end > most {
			return nil, api.ErrHint
		}
		for _, j := range b[start:end] {
			l[i][j] = true
		}
		start = end
	}
	// Only if positions ascend, and all else is zero, the hints are encoded in the same bytes again.
	again, e := PackHints(l, most)
	if e != api.OK || !bytes.Equal(again, b) {
		return nil, api.ErrHint
	}
	return l, api.OK
}

// mayHints tells whether there may be n hints with most marks at most.
func mayHints(n, most int) bool {
	return n >= 0 && n <= mostHints && most >= 0 && most <= mostMarks
}
