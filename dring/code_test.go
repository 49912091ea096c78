package dring

import (
	"bytes"
	"math"
	"math/rand"
	"testing"

	"livery/api"
)

// wrongBits are numbers of bits that nothing may have.
func wrongBits() []int {
	return []int{math.MinInt, math.MinInt32, -23, -1, 0, 24, 25, 31, 32, 33, 63, 64, 65, 256, 1 << 32, 1<<32 + 1, 1<<32 + 23, math.MaxInt}
}

// fitting are polynomials whose coefficients have that many bits, modulo q.
func fitting(draw *rand.Rand, bits int) []api.DPoly {
	greatest := min(1<<bits, 8380417) - 1
	l := []api.DPoly{same(0), same(1), same(int32(greatest))}
	for range 20 {
		l = append(l, within(draw, 0, greatest))
	}
	for i := range 256 {
		var a api.DPoly
		a[i] = int32(greatest)
		l = append(l, a)
	}
	return l
}

// P15.5: bit by bit, with every number of bits, and coefficients modulo q.
func TestPack(t *testing.T) {
	draw := rand.New(rand.NewSource(14))
	for d := 1; d <= 23; d++ {
		for _, a := range fitting(draw, d) {
			want := refPack(d, integers(a))
			for _, turns := range []int32{0, 1, 255, -1, -256} {
				c := a
				for i := range c {
					c[i] += turns * 8380417
				}
				kept := c
				b, e := Pack(d, c)
				if e != api.OK || len(b) != 32*d || !bytes.Equal(b, want) || c != kept {
					t.Fatalf("Pack(%d, %v): %x %d", d, c, b, e)
				}
			}
		}
	}
}

// P15.5: single coefficients, which take their own bits only.
func TestPackKnown(t *testing.T) {
	for _, c := range []struct {
		bits  int
		a     api.DPoly
		first []byte
	}{
		{1, api.DPoly{1, 0, 0, 1, 0, 0, 0, 1, 1}, []byte{0x89, 1}},
		{4, api.DPoly{0x1, 0x2, 0x3 + 8380417, 0x4 - 8380417}, []byte{0x21, 0x43}},
		{5, api.DPoly{31, 0, 31}, []byte{0x1f, 0x7c}},
		{10, api.DPoly{0x3ff, 0, 0x155}, []byte{0xff, 3, 0x50, 0x15}},
		{13, api.DPoly{0x1234, 0x1fff}, []byte{0x34, 0xf2, 0xff, 3}},
		{20, api.DPoly{0x12345, 0xabcde}, []byte{0x45, 0x23, 0xe1, 0xcd, 0xab}},
		{23, api.DPoly{-1, 8380417, 1}, []byte{0, 0xe0, 0x7f, 0, 0, 0x40}},
	} {
		b, e := Pack(c.bits, c.a)
		if want := append(c.first, make([]byte, 32*c.bits-len(c.first))...); e != api.OK || !bytes.Equal(b, want) {
			t.Errorf("Pack(%d, %v): %x %d", c.bits, c.a[:9], b[:8], e)
		}
	}
}

// P15.5, R2: numbers of bits that are none of 1 to 23.
func TestBitsErrors(t *testing.T) {
	for _, d := range wrongBits() {
		if b, e := Pack(d, same(0)); e != api.ErrArg || b != nil {
			t.Errorf("Pack(%d): %x %d", d, b, e)
		}
		if b, e := PackFrom(0, d, same(0)); e != api.ErrArg || b != nil {
			t.Errorf("PackFrom(%d): %x %d", d, b, e)
		}
		for _, size := range []int{0, 1, 32, 736, 768, 1024} {
			if a, e := Unpack(d, bytes.Repeat([]byte{7}, size)); e != api.ErrArg || a != (api.DPoly{}) {
				t.Errorf("Unpack(%d) of %d bytes: %v %d", d, size, a, e)
			}
			if a, e := UnpackFrom(0, d, bytes.Repeat([]byte{7}, size)); e != api.ErrArg || a != (api.DPoly{}) {
				t.Errorf("UnpackFrom(%d) of %d bytes: %v %d", d, size, a, e)
			}
		}
	}
}

// P15.5, R2: a coefficient that does not fit, anywhere; negative ones fit in 23 bits only.
func TestPackErrors(t *testing.T) {
	draw := rand.New(rand.NewSource(15))
	for d := 1; d <= 22; d++ {
		for i := range 256 {
			for _, n := range []int32{1 << d, 1<<d + 1, -1, 8380416, 8380417 + 1<<d, math.MaxInt32, math.MinInt32} {
				a := within(draw, 0, 1<<d-1)
				a[i] = n
				want := api.ErrArg
				if refMod(int(n)) < 1<<d {
					want = api.OK
				}
				if b, e := Pack(d, a); e != want || (b != nil) != (want == api.OK) {
					t.Fatalf("Pack(%d) with %d at %d: %x %d", d, n, i, b, e)
				}
			}
		}
	}
	for _, n := range ends() {
		if b, e := Pack(23, same(n)); e != api.OK || len(b) != 736 {
			t.Errorf("Pack(23) with %d: %x %d", n, b, e)
		}
	}
}

// encodings are bytes of that many bits for each coefficient: any, all of one kind, and single bits.
func encodings(draw *rand.Rand, d int) [][]byte {
	l := [][]byte{make([]byte, 32*d), bytes.Repeat([]byte{255}, 32*d)}
	for range 20 {
		l = append(l, drawn(draw, 32*d))
	}
	for i := range 32 * d {
		b := make([]byte, 32*d)
		b[i] = 1 << (i % 8)
		l = append(l, b)
	}
	return l
}

// P15.5: any bytes, with every number of bits, also integers of q and above.
func TestUnpack(t *testing.T) {
	draw := rand.New(rand.NewSource(16))
	for d := 1; d <= 23; d++ {
		for _, b := range encodings(draw, d) {
			kept, want := bytes.Clone(b), refUnpack(d, b)
			a, e := Unpack(d, b)
			if e != api.OK {
				t.Fatal(d, e)
			}
			for i, n := range want {
				if int(a[i]) != n {
					t.Fatalf("Unpack(%d, %x): %d at %d, and not %d", d, b, a[i], i, n)
				}
			}
			for _, top := range []int32{0, 1, 4, 1 << (d - 1), 8380416} {
				from, e := UnpackFrom(top, d, b)
				if e != api.OK {
					t.Fatal(top, d, e)
				}
				for i, n := range want {
					if int(from[i]) != int(top)-n {
						t.Fatalf("UnpackFrom(%d, %d, %x): %d at %d, and not %d", top, d, b, from[i], i, int(top)-n)
					}
				}
			}
			if !bytes.Equal(b, kept) {
				t.Fatal("the argument was changed")
			}
		}
	}
}

// P15.5: 23 bits hold integers of q and above, which are returned as they are.
func TestUnpackAbove(t *testing.T) {
	b := bytes.Repeat([]byte{255}, 736)
	if a, e := Unpack(23, b); e != api.OK || a != same(8388607) {
		t.Errorf("%v %d", a, e)
	}
	if a, e := UnpackFrom(0, 23, b); e != api.OK || a != same(-8388607) {
		t.Errorf("%v %d", a, e)
	}
	if a, e := UnpackFrom(8380416, 23, b); e != api.OK || a != same(-8191) {
		t.Errorf("%v %d", a, e)
	}
}

// P15.5, R2, R6: lengths that are not 32 times the number of bits.
func TestUnpackErrors(t *testing.T) {
	for d := 1; d <= 23; d++ {
		for _, size := range []int{0, 1, d, 31, 32*d - 32, 32*d - 1, 32*d + 1, 32*d + 32, 256 * d, 1 << 16} {
			b := bytes.Repeat([]byte{7}, size)
			if a, e := Unpack(d, b); e != api.ErrArg || a != (api.DPoly{}) {
				t.Errorf("Unpack(%d) of %d bytes: %v %d", d, size, a, e)
			}
			if a, e := UnpackFrom(4, d, b); e != api.ErrArg || a != (api.DPoly{}) {
				t.Errorf("UnpackFrom(%d) of %d bytes: %v %d", d, size, a, e)
			}
		}
		if a, e := Unpack(d, nil); e != api.ErrArg || a != (api.DPoly{}) {
			t.Errorf("Unpack(%d) of nothing: %v %d", d, a, e)
		}
		for _, top := range []int32{-1, -4, 8380417, 8380418, math.MaxInt32, math.MinInt32} {
			if a, e := UnpackFrom(top, d, make([]byte, 32*d)); e != api.ErrArg || a != (api.DPoly{}) {
				t.Errorf("UnpackFrom(%d, %d): %v %d", top, d, a, e)
			}
		}
	}
}

// P15.5: any top, with all differences that fit, and coefficients that are centered first.
func TestPackFrom(t *testing.T) {
	draw := rand.New(rand.NewSource(17))
	for d := 1; d <= 23; d++ {
		for _, top := range []int{0, 1, 2, 4, 4096, 1 << (d - 1), 524288, -1, -5, 1<<d - 1, 4190208, 4194304, 8380416, 8380417, -4190208, 1 << d, 1<<d - 4190209} {
			low, high := max(top-1<<d+1, -4190208), min(top, 4190208)
			if low > high {
				continue
			}
			for _, a := range []api.DPoly{same(int32(low)), same(int32(high)), within(draw, low, high), within(draw, low, high)} {
				var want []int
				for _, x := range a {
					want = append(want, top-int(x))
				}
				kept := refReduce(a)
				for _, c := range []api.DPoly{a, kept} {
					b, e := PackFrom(int32(top), d, c)
					if e != api.OK || !bytes.Equal(b, refPack(d, want)) {
						t.Fatalf("PackFrom(%d, %d, %v): %x %d", top, d, c, b, e)
					}
				}
				b, e := PackFrom(int32(top), d, a)
				if top < 0 || top >= 8380417 {
					continue
				}
				back, e2 := UnpackFrom(int32(top), d, mustBytes(t, b, e))
				if mustPoly(t, back, e2) != a {
					t.Fatalf("%v with %d and %d: %v", a, top, d, back)
				}
			}
		}
	}
}

// P15.5: single coefficients, on both sides of 0.
func TestPackFromKnown(t *testing.T) {
	for _, c := range []struct {
		top   int32
		bits  int
		a     api.DPoly
		first []byte
		rest  byte
	}{
		{0, 1, api.DPoly{-1, 0, 8380416, 0, 0, 0, 0, 0}, []byte{5}, 0},
		{4, 4, api.DPoly{4, -4, 0, 3, 8380413, 8380421}, []byte{0x80, 0x14, 0x08}, 0x44},
		{15, 4, api.DPoly{0, 15, 14}, []byte{0x0f, 0xf1}, 0xff},
		{255, 8, api.DPoly{255, 0, 254, 1}, []byte{0, 0xff, 1, 0xfe}, 0xff},
	} {
		want := bytes.Repeat([]byte{c.rest}, 32*c.bits)
		copy(want, c.first)
		if b, e := PackFrom(c.top, c.bits, c.a); e != api.OK || !bytes.Equal(b, want) {
			t.Errorf("PackFrom(%d, %d, %v): %x %d", c.top, c.bits, c.a[:9], b[:8], e)
		}
	}
}

// P15.5, R2, R7: a difference that is too small or too great, anywhere, and tops where it would wrap around.
func TestPackFromErrors(t *testing.T) {
	draw := rand.New(rand.NewSource(18))
	for d := 1; d <= 22; d++ {
		top := 1 << (d - 1)
		for i := range 256 {
			for _, n := range []int{top + 1, top - 1<<d, 4190208, 4190209} {
				a := within(draw, top-1<<d+1, top)
				a[i] = int32(n)
				if b, e := PackFrom(int32(top), d, a); e != api.ErrArg || b != nil {
					t.Fatalf("PackFrom(%d, %d) with %d at %d: %x %d", top, d, n, i, b, e)
				}
			}
		}
	}
	for d := 1; d <= 23; d++ {
		for _, top := range []int32{math.MinInt32, math.MinInt32 + 1, math.MaxInt32, math.MaxInt32 - 1, -4190209, 1<<23 + 4190208} {
			for _, n := range ends() {
				if b, e := PackFrom(top, d, same(n)); e != api.ErrArg || b != nil {
					t.Errorf("PackFrom(%d, %d) with %d: %x %d", top, d, n, b, e)
				}
			}
		}
	}
}

// P15.8: what is packed is unpacked to the same, and the other way round.
func TestCodeRoundTrips(t *testing.T) {
	draw := rand.New(rand.NewSource(19))
	for d := 1; d <= 23; d++ {
		for _, a := range fitting(draw, d) {
			b, e := Pack(d, a)
			back, e2 := Unpack(d, mustBytes(t, b, e))
			if mustPoly(t, back, e2) != a {
				t.Fatalf("%v with %d bits: %v", a, d, back)
			}
		}
		top := int32(1) << (d - 1)
		for _, b := range encodings(draw, d) {
			a, e := UnpackFrom(top, d, b)
			again, e2 := PackFrom(top, d, mustPoly(t, a, e))
			if centered := a == Center(a); !centered && d < 23 {
				t.Fatal(d)
			} else if centered && !bytes.Equal(mustBytes(t, again, e2), b) {
				t.Fatalf("%x from %d with %d bits: %x", b, top, d, again)
			}
			if d == 23 {
				continue
			}
			a, e = Unpack(d, b)
			again, e2 = Pack(d, mustPoly(t, a, e))
			if !bytes.Equal(mustBytes(t, again, e2), b) {
				t.Fatalf("%x with %d bits: %x", b, d, again)
			}
		}
	}
}

// R3: results are new memory.
func TestCodeMemory(t *testing.T) {
	a := row(100)
	b, e := Pack(10, a)
	kept := bytes.Clone(mustBytes(t, b, e))
	clear(b[:cap(b)])
	from, e := PackFrom(500, 10, a)
	clear(mustBytes(t, from, e)[:cap(from)])
	again, e := Pack(10, a)
	if !bytes.Equal(mustBytes(t, again, e), kept) || a != row(100) {
		t.Error("Pack keeps its result")
	}
}
