package octet

import (
	"bytes"
	"math/rand"
	"slices"
	"testing"

	"livery/api"
)

// bitsOf reads a text of the digits 0 and 1.
func bitsOf(text string) []bool {
	var l []bool
	for _, r := range text {
		l = append(l, r == '1')
	}
	return l
}

// P1.2: the least significant bit is first, and zero bits fill the last byte.
func TestBits(t *testing.T) {
	for _, c := range []struct {
		b    []byte
		bits string
	}{
		{nil, ""},
		{[]byte{0}, "00000000"},
		{[]byte{6}, "01100000"},
		{[]byte{0x80}, "00000001"},
		{[]byte{255}, "11111111"},
		{[]byte{1, 2, 0x84}, "100000000100000000100001"},
	} {
		if l := Bits(c.b); !slices.Equal(l, bitsOf(c.bits)) {
			t.Errorf("Bits(%v): %v", c.b, l)
		}
	}
	for _, c := range []struct {
		bits string
		b    []byte
	}{
		{"", nil},
		{"0", []byte{0}},
		{"1", []byte{1}},
		{"011", []byte{6}},
		{"1111111", []byte{127}},
		{"00000001", []byte{128}},
		{"000000001", []byte{0, 1}},
		{"1000000001000000001", []byte{1, 2, 4}},
	} {
		if b := FromBits(bitsOf(c.bits)); !bytes.Equal(b, c.b) {
			t.Errorf("FromBits(%s): %v", c.bits, b)
		}
	}
}

// P1.7: bits there and back.
func TestBitsRoundTrips(t *testing.T) {
	draw := rand.New(rand.NewSource(2))
	for size := range 100 {
		b := make([]byte, size)
		draw.Read(b)
		if c := FromBits(Bits(b)); !bytes.Equal(c, b) {
			t.Errorf("%v became %v", b, c)
		}
		l := make([]bool, size)
		for i := range l {
			l[i] = draw.Intn(2) == 1
		}
		full := append(slices.Clone(l), make([]bool, (8-size%8)%8)...)
		if m := Bits(FromBits(l)); !slices.Equal(m, full) {
			t.Errorf("%v became %v", l, m)
		}
	}
}

// P1.3: all parts, in their order.
func TestJoin(t *testing.T) {
	for _, c := range []struct {
		parts [][]byte
		want  string
	}{
		{nil, ""},
		{[][]byte{nil}, ""},
		{[][]byte{[]byte("ab")}, "ab"},
		{[][]byte{[]byte("ab"), nil, []byte("c"), {}, []byte("ab")}, "abcab"},
	} {
		if b := Join(c.parts...); string(b) != c.want {
			t.Errorf("Join(%q): %q", c.parts, b)
		}
	}
}

// P1.3: equal, or different at any place or in length.
func TestSame(t *testing.T) {
	if !Same(nil, nil) || !Same(nil, []byte{}) || !Same([]byte{}, nil) {
		t.Error("no bytes are not the same as no bytes")
	}
	if Same(nil, []byte{0}) || Same([]byte{0}, nil) || Same([]byte{1, 2}, []byte{1}) || Same([]byte{1}, []byte{1, 2}) {
		t.Error("another length is the same")
	}
	a := []byte("twenty bytes of text")
	if !Same(a, slices.Clone(a)) || !Same(a, a) {
		t.Error("a copy is not the same")
	}
	for i := range a {
		for bit := range 8 {
			b := slices.Clone(a)
			b[i] ^= 1 << bit
			if Same(a, b) || Same(b, a) {
				t.Errorf("the same with another bit %d of byte %d", bit, i)
			}
		}
	}
	// Differences that cancel each other in a sum or an exclusive or.
	if Same([]byte{1, 2}, []byte{2, 1}) || Same([]byte{1, 1}, []byte{0, 0}) || Same([]byte{128, 128}, []byte{0, 0}) {
		t.Error("two differences are none")
	}
}

// P1.3, P1.8: Choose returns one of its arguments.
func TestChoose(t *testing.T) {
	draw := rand.New(rand.NewSource(3))
	for size := range 50 {
		a, b := make([]byte, size), make([]byte, size)
		draw.Read(a)
		draw.Read(b)
		if c, e := Choose(true, a, b); e != api.OK || !bytes.Equal(c, a) {
			t.Errorf("the first of %v and %v: %v %d", a, b, c, e)
		}
		if c, e := Choose(false, a, b); e != api.OK || !bytes.Equal(c, b) {
			t.Errorf("the second of %v and %v: %v %d", a, b, c, e)
		}
	}
	for _, first := range []bool{true, false} {
		for _, c := range [][2][]byte{{nil, {1}}, {{1}, nil}, {{1, 2}, {1}}, {{1}, {1, 2}}} {
			if b, e := Choose(first, c[0], c[1]); e != api.ErrArg || b != nil {
				t.Errorf("Choose(%t, %v, %v): %v %d", first, c[0], c[1], b, e)
			}
		}
	}
}

// P1.3: bytewise, of two slices of one length.
func TestXor(t *testing.T) {
	if x, e := Xor([]byte{3, 0, 255, 0x0F}, []byte{5, 0, 255, 0xF0}); e != api.OK || !bytes.Equal(x, []byte{6, 0, 0, 255}) {
		t.Error(x, e)
	}
	if x, e := Xor(nil, []byte{}); e != api.OK || len(x) != 0 {
		t.Error(x, e)
	}
	for _, c := range [][2][]byte{{nil, {1}}, {{1}, nil}, {{1, 2}, {1}}, {{1}, {1, 2}}} {
		if b, e := Xor(c[0], c[1]); e != api.ErrArg || b != nil {
			t.Errorf("Xor(%v, %v): %v %d", c[0], c[1], b, e)
		}
	}
}

// P1.8: Xor twice is the identity, and Same is a zero Xor.
func TestXorTwice(t *testing.T) {
	draw := rand.New(rand.NewSource(4))
	for range 500 {
		size := draw.Intn(4)
		a, b := make([]byte, size), make([]byte, size)
		for i := range a {
			a[i], b[i] = byte(draw.Intn(2)), byte(draw.Intn(2))
		}
		x, e := Xor(a, b)
		y, f := Xor(x, b)
		if e != api.OK || f != api.OK || !bytes.Equal(y, a) {
			t.Errorf("%v, twice with %v: %v", a, b, y)
		}
		if Same(a, b) != bytes.Equal(x, make([]byte, size)) {
			t.Errorf("Same(%v, %v) is %t", a, b, Same(a, b))
		}
	}
}

// R3: results are new memory, and arguments are as they were.
func TestResultsAreNewMemory(t *testing.T) {
	a, b := []byte{1, 2}, []byte{3, 4}
	first, _ := Choose(true, a, b)
	second, _ := Choose(false, a, b)
	x, _ := Xor(a, b)
	l := []bool{true}
	Same(a, b)
	for _, c := range [][]byte{Join(a), Join(a, b), Join(a[:1], b), first, second, x, FromBits(l)} {
		c = c[:cap(c)]
		for i := range c {
			c[i] = 99
		}
	}
	Bits(a)[0] = false
	if !bytes.Equal(a, []byte{1, 2}) || !bytes.Equal(b, []byte{3, 4}) || !l[0] {
		t.Error(a, b, l)
	}
}
