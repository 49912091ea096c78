package dring

import (
	"bytes"
	"math"
	"math/rand"
	"slices"
	"testing"

	"livery/api"
)

// seeds are seeds of size bytes.
func seeds(draw *rand.Rand, size int) [][]byte {
	l := [][]byte{make([]byte, size), bytes.Repeat([]byte{255}, size)}
	for i := range size {
		b := make([]byte, size)
		b[i] = 1
		l = append(l, b)
	}
	for range 300 {
		l = append(l, drawn(draw, size))
	}
	return l
}

// checkSampler checks what a sampler makes of each seed, which is another polynomial for each of them.
func checkSampler(t *testing.T, l [][]byte, sample, want func(seed []byte) api.DPoly) {
	t.Helper()
	seen := map[api.DPoly]bool{}
	for _, seed := range l {
		kept := bytes.Clone(seed)
		a := sample(seed)
		if a != want(kept) {
			t.Fatalf("%x: %v, and not %v", seed, a, want(kept))
		}
		if !bytes.Equal(seed, kept) || seen[a] || sample(seed) != a {
			t.Fatalf("%x: %v", seed, a)
		}
		seen[a] = true
	}
}

// P15.7, P15.12, R4: the first integers less than q of the output.
func TestRejNtt(t *testing.T) {
	draw := rand.New(rand.NewSource(23))
	checkSampler(t, seeds(draw, 34), func(seed []byte) api.DPoly {
		a, e := RejNtt(seed)
		if mustPoly(t, a, e) != refReduce(a) {
			t.Fatalf("%x: %v", seed, a)
		}
		return a
	}, refRejNtt)
}

// P15.7, P15.12, R4: the first half bytes that count, of the output.
func TestRejBounded(t *testing.T) {
	draw := rand.New(rand.NewSource(24))
	for _, eta := range []int{2, 4} {
		var count [9]int
		checkSampler(t, seeds(draw, 66), func(seed []byte) api.DPoly {
			a, e := RejBounded(eta, seed)
			if int(Norm(mustPoly(t, a, e))) > eta || a != refReduce(a) {
				t.Fatalf("%x: %v", seed, a)
			}
			for _, x := range Center(a) {
				count[x+4]++
			}
			return a
		}, func(seed []byte) api.DPoly { return refRejBounded(eta, seed) })
		for i, n := range count {
			if (n == 0) != (i < 4-eta || i > 4+eta) {
				t.Errorf("eta %d: %d is there %d times", eta, i-4, n)
			}
		}
	}
}

// P15.7, P15.12, R4: coefficients are as far below the top as the output tells, also if they are negative.
func TestMask(t *testing.T) {
	draw := rand.New(rand.NewSource(25))
	for _, bits := range []int{18, 20} {
		negative := false
		checkSampler(t, seeds(draw, 66), func(seed []byte) api.DPoly {
			a, e := Mask(bits, seed)
			for _, x := range mustPoly(t, a, e) {
				if x <= -1<<(bits-1) || x > 1<<(bits-1) {
					t.Fatalf("%x: %d", seed, x)
				}
				negative = negative || x < 0
			}
			return a
		}, func(seed []byte) api.DPoly { return refMask(bits, seed) })
		if !negative {
			t.Error("no coefficient was negative")
		}
	}
}

// P15.7, P15.12, R4, R6: tau coefficients are 1 or -1, for seeds of any length.
func TestBall(t *testing.T) {
	draw := rand.New(rand.NewSource(26))
	for tau := 1; tau <= 64; tau++ {
		for _, size := range []int{0, 1, 31, 32, 48, 64, 136, 1000} {
			for range 8 {
				seed := drawn(draw, size)
				kept := bytes.Clone(seed)
				c, e := Ball(tau, seed)
				if mustPoly(t, c, e) != refBall(tau, seed) || !bytes.Equal(seed, kept) {
					t.Fatalf("Ball(%d, %x): %v", tau, seed, c)
				}
				checkSigns(t, tau, c)
			}
		}
		first, e := Ball(tau, nil)
		again, e2 := Ball(tau, []byte{})
		if mustPoly(t, first, e) != mustPoly(t, again, e2) {
			t.Fatal(tau)
		}
	}
	checkSampler(t, seeds(draw, 48), func(seed []byte) api.DPoly {
		c, e := Ball(49, seed)
		return mustPoly(t, c, e)
	}, func(seed []byte) api.DPoly { return refBall(49, seed) })
}

// checkSigns checks that exactly tau coefficients are 1 or -1, modulo q, and all others 0.
func checkSigns(t *testing.T, tau int, c api.DPoly) {
	t.Helper()
	for _, x := range c {
		switch x {
		case 1, 8380416:
			tau--
		case 0:
		default:
			t.Fatal(x)
		}
	}
	if tau != 0 {
		t.Fatalf("%d too few", tau)
	}
}

// P15.7, R2, R6: seeds of wrong lengths, and numbers that are none of those that there are.
func TestSampleErrors(t *testing.T) {
	check := func(a api.DPoly, e api.Errno, size, n int) {
		t.Helper()
		if e != api.ErrArg || a != (api.DPoly{}) {
			t.Errorf("%d bytes and %d: %v %d", size, n, a, e)
		}
	}
	for _, size := range []int{0, 1, 32, 33, 34, 35, 48, 64, 65, 66, 67, 68, 168, 1 << 16} {
		seed := bytes.Repeat([]byte{7}, size)
		if size == 0 {
			seed = nil
		}
		if size != 34 {
			a, e := RejNtt(seed)
			check(a, e, size, 0)
		}
		for _, n := range []int{math.MinInt, -4, -2, -1, 0, 1, 2, 3, 4, 5, 6, 16, 17, 18, 19, 20, 21, 64, 1<<32 + 2, 1<<32 + 4, 1<<32 + 18, math.MaxInt} {
			if size != 66 || n != 2 && n != 4 {
				a, e := RejBounded(n, seed)
				check(a, e, size, n)
			}
			if size != 66 || n != 18 && n != 20 {
				a, e := Mask(n, seed)
				check(a, e, size, n)
			}
		}
		for _, n := range []int{math.MinInt, -64, -1, 0, 65, 66, 255, 256, 257, 1 << 32, 1<<32 + 49, math.MaxInt} {
			a, e := Ball(n, seed)
			check(a, e, size, n)
		}
	}
}

// output is one that no seed is known to have: it goes on with bytes of 255, which nothing is made of.
type output struct {
	bytes []byte
	read  int
}

// next returns the next n bytes.
func (o *output) next(n int) ([]byte, api.Errno) {
	b := bytes.Repeat([]byte{255}, n)
	copy(b, o.bytes[min(o.read, len(o.bytes)):])
	o.read += n
	return b, api.OK
}

// sampler is what is made of an output.
type sampler func(read reader) (api.DPoly, api.Errno)

// checkLimit checks a sampler that takes size bytes of the output for a step, after the first ones: where it finds what it needs in as many steps as are allowed, and where it would need one more.
func checkLimit(t *testing.T, sample sampler, want api.DPoly, first, needed []byte, size int) {
	t.Helper()
	spare := 1024 - len(needed)/size
	for skipped, code := range map[int]api.Errno{
		0: api.OK, 1: api.OK, spare - 1: api.OK, spare: api.OK,
		spare + 1: api.ErrSample, 1023: api.ErrSample, 1024: api.ErrSample, 5000: api.ErrSample,
	} {
		between := bytes.Repeat([]byte{255}, skipped*size)
		for _, at := range []int{0, size, len(needed) - 2*size} {
			o := &output{bytes: slices.Concat(first, needed[:at], between, needed[at:])}
			a, e := sample(o.next)
			if e != code || e == api.OK && a != want || e != api.OK && a != (api.DPoly{}) {
				t.Errorf("%d steps at %d: %v %d", skipped, at, a, e)
			}
			if o.read > len(first)+1024*size {
				t.Errorf("%d steps at %d: %d bytes", skipped, at, o.read)
			}
		}
	}
}

// until returns the least number of the drawn bytes, in steps of size, of which f makes 256 integers.
func until(draw *rand.Rand, size int, f func(b []byte) []int32) []byte {
	var b []byte
	for len(f(b)) < 256 {
		b = append(b, drawn(draw, size)...)
	}
	return b
}

// P15.7, R2: 1,024 groups of three bytes are read at most.
func TestUniformLimit(t *testing.T) {
	draw := rand.New(rand.NewSource(27))
	for range 5 {
		needed := until(draw, 3, refGroups)
		checkLimit(t, uniform, api.DPoly(refGroups(needed)[:256]), nil, needed, 3)
	}
}

// P15.7, R2: 1,024 bytes are read at most.
func TestBoundedLimit(t *testing.T) {
	draw := rand.New(rand.NewSource(28))
	for _, eta := range []int{2, 4} {
		halves := func(b []byte) []int32 { return refHalves(eta, b) }
		sample := func(read reader) (api.DPoly, api.Errno) { return bounded(int32(eta), read) }
		for range 5 {
			needed := until(draw, 1, halves)
			checkLimit(t, sample, api.DPoly(halves(needed)[:256]), nil, needed, 1)
		}
	}
}

// P15.7, R2: 1,024 bytes after the signs are read at most.
func TestBallLimit(t *testing.T) {
	draw := rand.New(rand.NewSource(29))
	for _, tau := range []int{3, 39, 49, 60, 64} {
		sample := func(read reader) (api.DPoly, api.Errno) { return ball(tau, read) }
		for range 5 {
			signs := drawn(draw, 8)
			var needed []byte
			for i := 256 - tau; i < 256; i++ {
				needed = append(needed, byte(draw.Intn(i+1)))
			}
			checkLimit(t, sample, refShuffle(tau, slices.Concat(signs, needed)), signs, needed, 1)
		}
	}
}

// P15.7: an error of the output is an error of the sample, at whatever call it comes.
func TestSampleOfError(t *testing.T) {
	for _, sample := range []sampler{
		uniform,
		func(read reader) (api.DPoly, api.Errno) { return bounded(4, read) },
		func(read reader) (api.DPoly, api.Errno) { return ball(64, read) },
	} {
		for good := range 3 {
			calls := 0
			a, e := sample(func(n int) ([]byte, api.Errno) {
				if calls == good {
					return nil, api.ErrMade
				}
				calls++
				return bytes.Repeat([]byte{255}, n), api.OK
			})
			if e != api.ErrMade || a != (api.DPoly{}) {
				t.Errorf("after %d calls: %v %d", good, a, e)
			}
		}
	}
}

// P15.7: integers are what their bytes tell, without the highest bit; q is too great.
func TestUniformKnown(t *testing.T) {
	o := &output{bytes: []byte{1, 0, 0, 0, 1, 0, 0, 0, 1, 0, 0, 0x81, 0, 0xe0, 0x7f, 1, 0xe0, 0x7f, 0, 0xe0, 0xff, 2, 0xe0, 0xff, 0xff, 0xdf, 0x7f, 0xff, 0xff, 0x7f, 0xff, 0xff, 0xff, 3, 2, 1}}
	o.bytes = append(o.bytes, make([]byte, 1000)...)
	want := api.DPoly{1, 256, 65536, 65536, 8380416, 8380416, 8380415, 66051}
	if a, e := uniform(o.next); e != api.OK || a != want {
		t.Errorf("%v %d", a[:9], e)
	}
}

// P15.7: the last coefficient may come from the lower half of a byte, whose higher half is left.
func TestBoundedHalf(t *testing.T) {
	o := &output{bytes: append([]byte{0xf3}, bytes.Repeat([]byte{0}, 128)...)}
	want := same(4)
	want[0] = 1
	if a, e := bounded(4, o.next); e != api.OK || a != want {
		t.Errorf("%v %d", a, e)
	}
}

// P15.7: each half byte.
func TestBoundedKnown(t *testing.T) {
	every := []byte{0x10, 0x32, 0x54, 0x76, 0x98, 0xba, 0xdc, 0xfe}
	for _, c := range []struct {
		eta  int32
		want []int32
	}{
		{2, []int32{2, 1, 0, -1, -2, 2, 1, 0, -1, -2, 2, 1, 0, -1, -2}},
		{4, []int32{4, 3, 2, 1, 0, -1, -2, -3, -4}},
	} {
		o := &output{bytes: bytes.Repeat(every, 50)}
		a, e := bounded(c.eta, o.next)
		if e != api.OK {
			t.Fatal(e)
		}
		for i, x := range a {
			if want := refMod(int(c.want[i%len(c.want)])); int(x) != want {
				t.Fatalf("eta %d: %d at %d, and not %d", c.eta, x, i, want)
			}
		}
	}
}

// P15.7: a position that is taken again passes on what it had; signs are taken from the lowest bit on.
func TestBallKnown(t *testing.T) {
	signs := []byte{0x0d, 0, 0, 0, 0, 0, 0, 0}
	for _, c := range []struct {
		positions []byte
		want      api.DPoly
	}{
		{[]byte{252, 253, 254, 255}, api.DPoly{252: -1, 253: 1, 254: -1, 255: -1}},
		{[]byte{0, 1, 2, 3}, api.DPoly{-1, 1, -1, -1}},
		{[]byte{9, 9, 9, 9}, api.DPoly{9: -1, 253: -1, 254: 1, 255: -1}},
		{[]byte{253, 252, 254, 253, 255, 252, 255}, api.DPoly{252: -1, 253: 1, 254: -1, 255: -1}},
		{[]byte{255, 254, 253, 0, 0, 254, 0}, api.DPoly{0: -1, 253: -1, 254: -1, 255: 1}},
	} {
		o := &output{bytes: slices.Concat(signs, c.positions)}
		if got, e := ball(4, o.next); e != api.OK || got != refReduce(c.want) {
			t.Errorf("%v: %v %d", c.positions, got, e)
		}
	}
	signs = bytes.Repeat([]byte{0xaa}, 8)
	o := &output{bytes: slices.Concat(signs, make([]byte, 64))}
	c, e := ball(64, o.next)
	if e != api.OK || c[0] != 8380416 || c[255] != 1 || c[254] != 8380416 {
		t.Errorf("%v %d", c, e)
	}
}
