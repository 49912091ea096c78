package ring

import (
	"bytes"
	"math"
	"math/rand"
	"slices"
	"testing"

	"livery/api"
)

// wrongBits are numbers of bits that nothing may have.
func wrongBits() []int {
	return []int{math.MinInt, math.MinInt32, -12, -1, 0, 13, 14, 16, 17, 31, 32, 33, 63, 64, 65, 256, 1 << 32, 1<<32 + 1, math.MaxInt}
}

// row returns 256 consecutive integers.
func row(first int) api.Poly {
	var a api.Poly
	for i := range a {
		a[i] = uint16(first + i)
	}
	return a
}

// P13.3: every coefficient that there is, with every number of bits.
func TestCompress(t *testing.T) {
	for d := 1; d <= 11; d++ {
		for first := 0; first < 1<<16; first += 256 {
			a := row(first)
			c, e := Compress(d, a)
			if e != api.OK || a != row(first) {
				t.Fatal(d, first, e)
			}
			for i, x := range c {
				if want := refNearest(refMod(first+i)<<d, 3329) % (1 << d); int(x) != want {
					t.Fatalf("Compress(%d, %d): %d, and not %d", d, first+i, x, want)
				}
			}
		}
	}
}

// P13.3: every integer that there is, taken modulo 2^d, with every number of bits.
func TestDecompress(t *testing.T) {
	for d := 1; d <= 11; d++ {
		for first := 0; first < 1<<16; first += 256 {
			a := row(first)
			c, e := Decompress(d, a)
			if e != api.OK || a != row(first) {
				t.Fatal(d, first, e)
			}
			for i, x := range c {
				if want := refNearest(3329*((first+i)%(1<<d)), 1<<d); int(x) != want || want >= 3329 {
					t.Fatalf("Decompress(%d, %d): %d, and not %d", d, first+i, x, want)
				}
			}
		}
	}
}

// P13.3: the chapter's examples, where rounding changes, and halves.
func TestCompressKnown(t *testing.T) {
	for _, c := range []struct {
		d       int
		x, want uint16
	}{
		{1, 0, 0}, {1, 832, 0}, {1, 833, 1}, {1, 1664, 1}, {1, 2496, 1}, {1, 2497, 0}, {1, 3328, 0}, {1, 3329, 0}, {1, 3329 + 833, 1},
		{4, 104, 0}, {4, 105, 1}, {4, 3224, 15}, {4, 3225, 0},
		{10, 1, 0}, {10, 2, 1}, {10, 3327, 1023}, {10, 3328, 0},
		{11, 1, 1}, {11, 3328, 2047}, {11, 65535, 1405},
	} {
		if a, e := Compress(c.d, same(c.x)); e != api.OK || a != same(c.want) {
			t.Errorf("Compress(%d, %d): %d %d", c.d, c.x, a[0], e)
		}
	}
	for _, c := range []struct {
		d       int
		y, want uint16
	}{
		{1, 0, 0}, {1, 1, 1665}, {1, 2, 0}, {1, 3329, 1665}, {1, 65535, 1665},
		{2, 1, 832}, {2, 2, 1665}, {2, 3, 2497}, {4, 15, 3121}, {10, 1023, 3326}, {11, 2047, 3327}, {11, 1024, 1665}, {11, 2048, 0},
	} {
		if a, e := Decompress(c.d, same(c.y)); e != api.OK || a != same(c.want) {
			t.Errorf("Decompress(%d, %d): %d %d", c.d, c.y, a[0], e)
		}
	}
}

// P13.3, R2: 12 bits are too many for both, and so is any number that is none of 1 to 11.
func TestCompressErrors(t *testing.T) {
	for _, d := range append(wrongBits(), 12) {
		if a, e := Compress(d, same(7)); e != api.ErrArg || a != (api.Poly{}) {
			t.Errorf("Compress(%d): %v %d", d, a, e)
		}
		if a, e := Decompress(d, same(7)); e != api.ErrArg || a != (api.Poly{}) {
			t.Errorf("Decompress(%d): %v %d", d, a, e)
		}
	}
}

// P13.9: what is lost is at most q / 2^(d + 1), and compressed integers are compressed to themselves.
func TestApproximation(t *testing.T) {
	for d := 1; d <= 11; d++ {
		most := refNearest(3329, 2<<d)
		for first := 0; first < 1<<16; first += 256 {
			a := row(first)
			small, e := Compress(d, a)
			back := mustPoly(t, small, e)
			back, e = Decompress(d, back)
			for i, x := range mustPoly(t, back, e) {
				if lost := refMod(first + i - int(x)); min(lost, 3329-lost) > most {
					t.Fatalf("%d with %d bits: %d", first+i, d, x)
				}
			}
			again, e := Compress(d, back)
			if mustPoly(t, again, e) != small {
				t.Fatalf("from %d on with %d bits", first, d)
			}
		}
	}
}

// P13.4: bit by bit, with every number of bits: coefficients modulo 2^d, but with 12 bits modulo q.
func TestEncode(t *testing.T) {
	draw := rand.New(rand.NewSource(9))
	for d := 1; d <= 12; d++ {
		l := polys(draw)
		for first := 0; first < 1<<16; first += 256 {
			l = append(l, row(first))
		}
		for _, a := range l {
			b, e := Encode(d, a)
			if e != api.OK || len(b) != 32*d || !bytes.Equal(b, refEncode(d, a)) {
				t.Fatalf("Encode(%d, %v): %x %d", d, a, b, e)
			}
		}
	}
}

// P13.4: single coefficients, which take their own bits only.
func TestEncodeKnown(t *testing.T) {
	for _, c := range []struct {
		d     int
		a     api.Poly
		first []byte
	}{
		{1, api.Poly{1, 0, 0, 1, 0, 0, 0, 1, 1}, []byte{0x89, 1}},
		{1, api.Poly{3329, 3330, 65535}, []byte{5}},
		{4, api.Poly{0x1, 0x2, 0x13}, []byte{0x21, 3}},
		{4, api.Poly{3329, 3328}, []byte{0x01}},
		{5, api.Poly{31, 0, 31}, []byte{0x1f, 0x7c}},
		{10, api.Poly{0x3ff, 0, 0x155}, []byte{0xff, 3, 0x50, 0x15}},
		{11, api.Poly{3329, 0x7ff}, []byte{1, 0xfd, 0x3f}},
		{12, api.Poly{0x123, 0xabc}, []byte{0x23, 0xc1, 0xab}},
		{12, api.Poly{3328, 3329, 3330, 65535}, []byte{0, 0x0d, 0, 1, 0xc0, 0x8e}},
	} {
		b, e := Encode(c.d, c.a)
		want := slices.Concat(c.first, make([]byte, 32*c.d-len(c.first)))
		if e != api.OK || !bytes.Equal(b, want) {
			t.Errorf("Encode(%d, %v): %x %d", c.d, c.a[:5], b[:8], e)
		}
	}
}

// P13.4: any bytes, with every number of bits; with 12 bits coefficients are taken modulo q.
func TestDecode(t *testing.T) {
	draw := rand.New(rand.NewSource(10))
	for d := 1; d <= 12; d++ {
		l := [][]byte{make([]byte, 32*d), bytes.Repeat([]byte{255}, 32*d)}
		for range 50 {
			l = append(l, drawn(draw, 32*d))
		}
		for i := range 32 * d {
			b := make([]byte, 32*d)
			b[i] = 1 << (i % 8)
			l = append(l, b)
		}
		for _, b := range l {
			kept := bytes.Clone(b)
			a, e := Decode(d, b)
			if e != api.OK || !bytes.Equal(b, kept) {
				t.Fatal(d, e)
			}
			for i, n := range refIntegers(d, b) {
				if d == 12 {
					n %= 3329
				}
				if int(a[i]) != n {
					t.Fatalf("Decode(%d, %x): %d at %d, and not %d", d, b, a[i], i, n)
				}
			}
		}
	}
}

// P13.4: each integer of 12 bits.
func TestDecodeOfEachInteger(t *testing.T) {
	for n := range 4096 {
		b := bytes.Repeat([]byte{byte(n), byte(n>>8 + n<<4), byte(n >> 4)}, 128)
		if a, e := Decode(12, b); e != api.OK || a != same(uint16(n%3329)) {
			t.Fatalf("%d: %d %d", n, a[0], e)
		}
		if Canon(b) != (n < 3329) {
			t.Fatalf("Canon of %d: %v", n, Canon(b))
		}
	}
}

// P13.4, R2: numbers of bits that are none of 1 to 12, and lengths that are not 32 times that.
func TestCodeErrors(t *testing.T) {
	for _, d := range wrongBits() {
		if b, e := Encode(d, same(7)); e != api.ErrArg || b != nil {
			t.Errorf("Encode(%d): %x %d", d, b, e)
		}
		for _, size := range []int{0, 1, 32, 384, 416, 32 * 16} {
			if a, e := Decode(d, bytes.Repeat([]byte{7}, size)); e != api.ErrArg || a != (api.Poly{}) {
				t.Errorf("Decode(%d) of %d bytes: %v %d", d, size, a, e)
			}
		}
	}
	for d := 1; d <= 12; d++ {
		for _, size := range []int{0, 1, d, 31, 32*d - 32, 32*d - 1, 32*d + 1, 32*d + 32, 256 * d, 1 << 16} {
			if a, e := Decode(d, bytes.Repeat([]byte{7}, size)); e != api.ErrArg || a != (api.Poly{}) {
				t.Errorf("Decode(%d) of %d bytes: %v %d", d, size, a, e)
			}
		}
		if a, e := Decode(d, nil); e != api.ErrArg || a != (api.Poly{}) {
			t.Errorf("Decode(%d) of nothing: %v %d", d, a, e)
		}
	}
}

// P13.4: a single integer of q or more, anywhere, and lengths around 384.
func TestCanon(t *testing.T) {
	draw := rand.New(rand.NewSource(11))
	for i := range 256 {
		for _, c := range []struct {
			n    int
			want bool
		}{{0, true}, {3328, true}, {3329, false}, {3330, false}, {4095, false}} {
			a := poly(draw)
			a[i] = uint16(c.n)
			b := packed(12, a)
			if Canon(b) != c.want {
				t.Fatalf("%d at %d", c.n, i)
			}
		}
	}
	for _, size := range []int{0, 1, 3, 382, 383, 385, 387, 416, 768} {
		if Canon(make([]byte, size)) {
			t.Errorf("%d bytes", size)
		}
	}
	if Canon(nil) || !Canon(make([]byte, 384)) || Canon(bytes.Repeat([]byte{255}, 384)) {
		t.Error("nothing, or bytes that are all the same")
	}
}

// P13.4: Canon tells which bytes Encode returns with 12 bits.
func TestCanonIsEncoded(t *testing.T) {
	draw := rand.New(rand.NewSource(12))
	for i := range 400 {
		a := poly(draw)
		if i%2 == 1 {
			a[draw.Intn(256)] = uint16(3320 + draw.Intn(18))
		}
		b := packed(12, a)
		kept := bytes.Clone(b)
		back, e := Decode(12, b)
		again, e2 := Encode(12, mustPoly(t, back, e))
		if Canon(b) != bytes.Equal(mustBytes(t, again, e2), b) || !bytes.Equal(b, kept) {
			t.Fatalf("%x", b)
		}
	}
}

// P13.6: what is encoded is decoded to the same, and the other way round.
func TestCodeRoundTrips(t *testing.T) {
	draw := rand.New(rand.NewSource(13))
	for d := 1; d <= 12; d++ {
		for _, a := range polys(draw) {
			b, e := Encode(d, a)
			back, e2 := Decode(d, mustBytes(t, b, e))
			for i, x := range mustPoly(t, back, e2) {
				want := int(a[i]) % (1 << d)
				if d == 12 {
					want = refMod(int(a[i]))
				}
				if int(x) != want {
					t.Fatalf("%d with %d bits: %d", a[i], d, x)
				}
			}
			again, e := Encode(d, back)
			if !bytes.Equal(mustBytes(t, again, e), b) {
				t.Fatalf("%x with %d bits: %x", b, d, again)
			}
		}
		if d == 12 {
			continue
		}
		for range 50 {
			b := drawn(draw, 32*d)
			a, e := Decode(d, b)
			again, e2 := Encode(d, mustPoly(t, a, e))
			if !bytes.Equal(mustBytes(t, again, e2), b) {
				t.Fatalf("%x with %d bits: %x", b, d, again)
			}
		}
	}
}

// R3: results are new memory, and the bytes that are decoded are not kept.
func TestCodeMemory(t *testing.T) {
	a := row(100)
	b, e := Encode(10, a)
	kept := bytes.Clone(mustBytes(t, b, e))
	clear(b[:cap(b)])
	again, e := Encode(10, a)
	if !bytes.Equal(mustBytes(t, again, e), kept) || a != row(100) {
		t.Error("Encode keeps its result")
	}
	whole := bytes.Repeat([]byte{0x5a}, 400)
	first, e := Decode(12, whole[:384])
	mustPoly(t, first, e)
	Canon(whole[:384])
	if !bytes.Equal(whole, bytes.Repeat([]byte{0x5a}, 400)) {
		t.Error("an argument was changed")
	}
}
