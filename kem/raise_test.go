package kem

import (
	"testing"

	"livery/api"
)

// exported raises e halfway, as the exported functions do it when a lower layer returns an error.
func exported(e api.Errno) (b []byte, key [32]byte, raisedError api.Errno) {
	defer func() { raisedError = raised(recover()) }()
	key = sure([32]byte{1}, api.OK)
	return sure([]byte{2}, e), key, api.OK
}

// P14.1: the errors of lower layers, ErrSample among them, are returned unchanged. (No seed is known that leads to ErrSample.)
func TestRaised(t *testing.T) {
	for _, e := range []api.Errno{api.ErrArg, api.ErrLong, api.ErrSample, api.ErrEk} {
		if b, _, got := exported(e); got != e || b != nil {
			t.Errorf("error %d becomes %d, with %x", e, got, b)
		}
	}
	if b, key, e := exported(api.OK); e != api.OK || len(b) != 1 || key != [32]byte{1} {
		t.Errorf("%x %x, error %d", b, key, e)
	}
}
