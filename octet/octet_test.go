package octet

import (
	"bytes"
	"math"
	"math/rand"
	"testing"

	"livery/api"
)

// P1.1: the fixed sizes.
func TestFixedSizes(t *testing.T) {
	for _, c := range []struct{ got, want []byte }{
		{U16(0), []byte{0, 0}},
		{U16(0x0102), []byte{1, 2}},
		{U16(math.MaxUint16), []byte{255, 255}},
		{U32(0), []byte{0, 0, 0, 0}},
		{U32(0x01020304), []byte{1, 2, 3, 4}},
		{U32(math.MaxUint32), bytes.Repeat([]byte{255}, 4)},
		{U64(0), make([]byte, 8)},
		{U64(0x0102030405060708), []byte{1, 2, 3, 4, 5, 6, 7, 8}},
		{U64(math.MaxUint64), bytes.Repeat([]byte{255}, 8)},
	} {
		if !bytes.Equal(c.got, c.want) {
			t.Errorf("%v instead of %v", c.got, c.want)
		}
	}
}

// P1.1: both orders.
func TestOrders(t *testing.T) {
	for _, c := range []struct {
		n    uint64
		size int
		big  []byte
	}{
		{258, 3, []byte{0, 1, 2}},
		{0, 1, []byte{0}},
		{255, 1, []byte{255}},
		{0x010203, 3, []byte{1, 2, 3}},
		{0x0102, 8, []byte{0, 0, 0, 0, 0, 0, 1, 2}},
		{0x0102030405060708, 8, []byte{1, 2, 3, 4, 5, 6, 7, 8}},
		{math.MaxUint64, 8, bytes.Repeat([]byte{255}, 8)},
	} {
		if b, e := Big(c.n, c.size); e != api.OK || !bytes.Equal(b, c.big) {
			t.Errorf("Big(%d, %d): %v %d", c.n, c.size, b, e)
		}
		if b, e := Little(c.n, c.size); e != api.OK || !bytes.Equal(b, backwards(c.big)) {
			t.Errorf("Little(%d, %d): %v %d", c.n, c.size, b, e)
		}
		if n, e := BigOf(c.big); e != api.OK || n != c.n {
			t.Errorf("BigOf(%v): %d %d", c.big, n, e)
		}
		if n, e := LittleOf(backwards(c.big)); e != api.OK || n != c.n {
			t.Errorf("LittleOf(%v): %d %d", backwards(c.big), n, e)
		}
	}
}

func backwards(b []byte) []byte {
	var l []byte
	for i := len(b) - 1; i >= 0; i-- {
		l = append(l, b[i])
	}
	return l
}

// P1.1: the size is checked first, then the integer.
func TestSizeErrors(t *testing.T) {
	for _, f := range []func(uint64, int) ([]byte, api.Errno){Big, Little} {
		for _, size := range []int{math.MinInt, -8, -1, 0, 9, 64, math.MaxInt} {
			for _, n := range []uint64{0, 1, math.MaxUint64} {
				if b, e := f(n, size); e != api.ErrArg || b != nil {
					t.Errorf("%d in %d bytes: %v %d", n, size, b, e)
				}
			}
		}
		for size := 1; size < 8; size++ {
			limit := uint64(1) << (8 * size)
			for _, n := range []uint64{limit, limit + 1, math.MaxUint64} {
				if b, e := f(n, size); e != api.ErrLong || b != nil {
					t.Errorf("%d in %d bytes: %v %d", n, size, b, e)
				}
			}
			if b, e := f(limit-1, size); e != api.OK || !bytes.Equal(b, bytes.Repeat([]byte{255}, size)) {
				t.Errorf("%d in %d bytes: %v %d", limit-1, size, b, e)
			}
		}
	}
}

// P1.1: an integer has 1 to 8 bytes.
func TestLengthErrors(t *testing.T) {
	for _, b := range [][]byte{nil, {}, make([]byte, 9), {1, 2, 3, 4, 5, 6, 7, 8, 9}, make([]byte, 1000)} {
		if n, e := BigOf(b); e != api.ErrArg || n != 0 {
			t.Errorf("BigOf of %d bytes: %d %d", len(b), n, e)
		}
		if n, e := LittleOf(b); e != api.ErrArg || n != 0 {
			t.Errorf("LittleOf of %d bytes: %d %d", len(b), n, e)
		}
	}
}

// P1.7: integers there and back, bytes there and back.
func TestIntegerRoundTrips(t *testing.T) {
	draw := rand.New(rand.NewSource(1))
	for range 1000 {
		size := 1 + draw.Intn(8)
		b := make([]byte, size)
		draw.Read(b)
		roundTrip(t, b, BigOf, Big)
		roundTrip(t, b, LittleOf, Little)
		n := draw.Uint64() >> (64 - 8*size)
		for _, c := range []struct {
			there func(uint64, int) ([]byte, api.Errno)
			back  func([]byte) (uint64, api.Errno)
		}{{Big, BigOf}, {Little, LittleOf}} {
			b, e := c.there(n, size)
			if m, f := c.back(b); e != api.OK || f != api.OK || m != n {
				t.Errorf("%d in %d bytes: %v, then %d", n, size, b, m)
			}
		}
		for _, b := range [][]byte{U16(uint16(n)), U32(uint32(n)), U64(n)} {
			roundTrip(t, b, BigOf, Big)
		}
		if m, e := BigOf(U64(n)); e != api.OK || m != n {
			t.Errorf("U64(%d): %d %d", n, m, e)
		}
	}
}

func roundTrip(t *testing.T, b []byte, of func([]byte) (uint64, api.Errno), to func(uint64, int) ([]byte, api.Errno)) {
	t.Helper()
	n, e := of(b)
	if c, f := to(n, len(b)); e != api.OK || f != api.OK || !bytes.Equal(c, b) {
		t.Errorf("%v: %d, then %v", b, n, c)
	}
}

// R3: an argument is as it was.
func TestIntegersKeepArguments(t *testing.T) {
	b := []byte{1, 2, 3}
	BigOf(b)
	LittleOf(b)
	if !bytes.Equal(b, []byte{1, 2, 3}) {
		t.Error(b)
	}
}
