package ring

import (
	"bytes"
	"math"
	"math/rand"
	"testing"

	"livery/api"
)

// P13.5: the first integers less than q of the output, for any seed.
func TestSampleNtt(t *testing.T) {
	draw := rand.New(rand.NewSource(14))
	seeds := [][]byte{make([]byte, 34), bytes.Repeat([]byte{255}, 34)}
	for i := range 34 {
		b := make([]byte, 34)
		b[i] = 1
		seeds = append(seeds, b)
	}
	for range 500 {
		seeds = append(seeds, drawn(draw, 34))
	}
	seen := map[api.Poly]bool{}
	for _, seed := range seeds {
		kept := bytes.Clone(seed)
		a, e := SampleNtt(seed)
		if want := refSampleNtt(t, seed); e != api.OK || a != want {
			t.Fatalf("%x: %v %d, and not %v", seed, a, e, want)
		}
		if !bytes.Equal(seed, kept) || seen[a] || a != Reduce(a) {
			t.Fatalf("%x: %v", seed, a)
		}
		seen[a] = true
	}
}

// P13.5, R2, R6: seeds that do not have 34 bytes.
func TestSampleNttErrors(t *testing.T) {
	for _, size := range []int{0, 1, 32, 33, 35, 36, 64, 68, 168, 1 << 16} {
		if a, e := SampleNtt(bytes.Repeat([]byte{7}, size)); e != api.ErrArg || a != (api.Poly{}) {
			t.Errorf("%d bytes: %v %d", size, a, e)
		}
	}
	if a, e := SampleNtt(nil); e != api.ErrArg || a != (api.Poly{}) {
		t.Errorf("nothing: %v %d", a, e)
	}
}

// output is one that no seed is known to have.
type output struct {
	groups [][]byte
	read   int
}

// next returns the next n bytes, and bytes of 255 when there are no more groups.
func (o *output) next(n int) ([]byte, api.Errno) {
	o.read += n
	if len(o.groups) == 0 {
		return bytes.Repeat([]byte{255}, n), api.OK
	}
	g := o.groups[0]
	o.groups = o.groups[1:]
	return g[:n], api.OK
}

// integers returns a group of bytes with these integers.
func integers(first, second int) []byte {
	return []byte{byte(first), byte(first/256 + second%16*16), byte(second / 16)}
}

// P13.5: 1,024 groups of three bytes are read at most, and no more than it takes.
func TestSampledGroups(t *testing.T) {
	for _, c := range []struct {
		skipped, halves int // groups with no integer less than q, and then with one
		want            api.Errno
		read            int // groups
	}{
		{0, 0, api.OK, 128},
		{1, 0, api.OK, 129},
		{0, 1, api.OK, 129},
		{0, 2, api.OK, 129},
		{0, 256, api.OK, 256},
		{896, 0, api.OK, 1024},
		{895, 1, api.OK, 1024},
		{895, 2, api.OK, 1024},
		{768, 256, api.OK, 1024},
		{896, 1, api.ErrSample, 1024},
		{897, 0, api.ErrSample, 1024},
		{769, 256, api.ErrSample, 1024},
		{1023, 1, api.ErrSample, 1024},
		{1024, 0, api.ErrSample, 1024},
		{5000, 0, api.ErrSample, 1024},
	} {
		var o output
		for i := range c.skipped {
			o.groups = append(o.groups, integers(3329+i%767, 4095-i%767))
		}
		next := 0
		for i := range c.halves {
			if i%2 == 0 {
				o.groups = append(o.groups, integers(next, 3329))
			} else {
				o.groups = append(o.groups, integers(4095, next))
			}
			next++
		}
		for next < 3000 {
			o.groups = append(o.groups, integers(next, next+1))
			next += 2
		}
		want := row(0)
		if c.want != api.OK {
			want = api.Poly{}
		}
		if a, e := sampled(o.next); e != c.want || a != want || o.read != 3*c.read {
			t.Errorf("%d and %d: %v, error %d, %d bytes", c.skipped, c.halves, a, e, o.read)
		}
	}
}

// P13.5: integers are what their bytes tell, and q is too great.
func TestSampledIntegers(t *testing.T) {
	var o output
	o.groups = [][]byte{{1, 0, 0}, {0, 1, 0}, {0, 0x10, 0}, {0, 0, 1}, {0, 0x0d, 0xd0}, {1, 0x0d, 0xd0}, {0, 0x1d, 0xd0}, {0xab, 0x5c, 0x12}}
	a, e := sampled(func(n int) ([]byte, api.Errno) {
		if len(o.groups) == 0 {
			return []byte{7, 0x70, 0}, api.OK
		}
		return o.next(n)
	})
	want := []uint16{1, 0, 256, 0, 0, 1, 0, 16, 3328, 3328, 3328, 3328, 0xcab, 0x125, 7, 7}
	if e != api.OK || !equal(a[:len(want)], want) || a[255] != 7 {
		t.Errorf("%v %d", a, e)
	}
}

func equal(a, b []uint16) bool {
	for i, x := range b {
		if a[i] != x {
			return false
		}
	}
	return len(a) == len(b)
}

// P13.5: an error of the output is an error of the sample.
func TestSampledError(t *testing.T) {
	a, e := sampled(func(int) ([]byte, api.Errno) { return nil, api.ErrMade })
	if e != api.ErrMade || a != (api.Poly{}) {
		t.Errorf("%v %d", a, e)
	}
}

// P13.5: any bytes, and single bits, each of which counts for one coefficient.
func TestCbd(t *testing.T) {
	draw := rand.New(rand.NewSource(15))
	for _, eta := range []int{2, 3} {
		size := 64 * eta
		l := [][]byte{make([]byte, size), bytes.Repeat([]byte{255}, size)}
		for i := range 8 * size {
			b := make([]byte, size)
			b[i/8] = 1 << (i % 8)
			l = append(l, b)
		}
		for range 300 {
			l = append(l, drawn(draw, size))
		}
		for _, b := range l {
			kept := bytes.Clone(b)
			a, e := Cbd(eta, b)
			if want := refCbd(eta, b); e != api.OK || a != want {
				t.Fatalf("Cbd(%d, %x): %v %d, and not %v", eta, b, a, e, want)
			}
			if !bytes.Equal(b, kept) {
				t.Fatal("the argument was changed")
			}
			for _, x := range a {
				if int(x) > eta && int(x) < 3329-eta || x >= 3329 {
					t.Fatalf("Cbd(%d, %x): %d", eta, b, x)
				}
			}
		}
	}
}

// P13.5: all bits of a coefficient.
func TestCbdKnown(t *testing.T) {
	two := make([]byte, 128)
	copy(two, []byte{0x13, 0xc4, 0x7f})
	if a, e := Cbd(2, two); e != api.OK || !equal(a[:7], []uint16{2, 1, 3328, 3327, 0, 1, 0}) {
		t.Errorf("%v %d", a, e)
	}
	three := make([]byte, 192)
	copy(three, []byte{0x07, 0x8e, 0xe3, 0x7f}) // by sixes from the lowest bit on: 7, 56, 56, 56, 63, 1
	if a, e := Cbd(3, three); e != api.OK || !equal(a[:7], []uint16{3, 3326, 3326, 3326, 0, 1, 0}) {
		t.Errorf("%v %d", a, e)
	}
}

// P13.5, R2, R6: numbers of bits but 2 and 3, and lengths that are not 64 times that.
func TestCbdErrors(t *testing.T) {
	for _, eta := range []int{math.MinInt, -3, -2, -1, 0, 1, 4, 5, 6, 1 << 32, 1<<58 + 2, math.MaxInt} {
		for _, size := range []int{0, 64, 128, 192, 256} {
			if a, e := Cbd(eta, bytes.Repeat([]byte{7}, size)); e != api.ErrArg || a != (api.Poly{}) {
				t.Errorf("Cbd(%d) of %d bytes: %v %d", eta, size, a, e)
			}
		}
	}
	for _, eta := range []int{2, 3} {
		for _, size := range []int{0, 1, 64, 64*eta - 1, 64*eta + 1, 64 * (5 - eta), 256, 512, 1 << 16} {
			if a, e := Cbd(eta, bytes.Repeat([]byte{7}, size)); e != api.ErrArg || a != (api.Poly{}) {
				t.Errorf("Cbd(%d) of %d bytes: %v %d", eta, size, a, e)
			}
		}
		if a, e := Cbd(eta, nil); e != api.ErrArg || a != (api.Poly{}) {
			t.Errorf("Cbd(%d) of nothing: %v %d", eta, a, e)
		}
	}
}

// R4: the same calls return the same, whatever was called between them.
func TestSamplesAgain(t *testing.T) {
	seed, b := bytes.Repeat([]byte{9}, 34), bytes.Repeat([]byte{0x39}, 128)
	first, e := SampleNtt(seed)
	mustPoly(t, first, e)
	small, e := Cbd(2, b)
	mustPoly(t, small, e)
	for range 5 {
		again, e := SampleNtt(seed)
		if mustPoly(t, again, e) != first {
			t.Error(again)
		}
		again, e = Cbd(2, b)
		if mustPoly(t, again, e) != small {
			t.Error(again)
		}
		SampleNtt(make([]byte, 34))
		Cbd(3, make([]byte, 192))
	}
}
