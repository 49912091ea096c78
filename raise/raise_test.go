package raise

import (
	"testing"

	"livery/api"
)

// exported raises e halfway, as exported functions do it when a lower layer returns an error.
func exported(e api.Errno) (b []byte, key [32]byte, raised api.Errno) {
	defer func() { raised = Error(recover()) }()
	key = Sure([32]byte{1}, api.OK)
	return Sure([]byte{2}, e), key, api.OK
}

// P14.1, P16.3: the errors of lower layers, ErrSample among them, are returned unchanged. (No seed is known that leads to ErrSample.)
func TestSure(t *testing.T) {
	for _, e := range []api.Errno{api.ErrArg, api.ErrLong, api.ErrSample, api.ErrEk} {
		if b, _, got := exported(e); got != e || b != nil {
			t.Errorf("error %d becomes %d, with %x", e, got, b)
		}
	}
	if b, key, e := exported(api.OK); e != api.OK || len(b) != 1 || key != [32]byte{1} {
		t.Errorf("%x %x, error %d", b, key, e)
	}
}

// P1: of several errors, the first one is raised.
func TestUnless(t *testing.T) {
	first := func(a, b bool) (e api.Errno) {
		defer func() { e = Error(recover()) }()
		Unless(a, api.ErrSk)
		Unless(b, api.ErrLong)
		return api.OK
	}
	for _, c := range []struct {
		a, b bool
		want api.Errno
	}{{true, true, api.OK}, {true, false, api.ErrLong}, {false, true, api.ErrSk}, {false, false, api.ErrSk}} {
		if e := first(c.a, c.b); e != c.want {
			t.Errorf("%v and %v: error %d", c.a, c.b, e)
		}
	}
}
