package dring

import (
	"crypto/sha3"
	"math"
	"math/rand"
	"slices"
	"strconv"
	"strings"
	"testing"

	"livery/api"
)

// The chapter, step by step, with integers of full width and the SHAKE of the standard library.

// refMod returns n modulo q, also of negative integers.
func refMod(n int) int { return (n%8380417 + 8380417) % 8380417 }

// refCenter returns the centered value.
func refCenter(n int) int {
	n = refMod(n)
	if n > (8380417-1)/2 {
		n -= 8380417
	}
	return n
}

// refRev reverses the digits in a text.
func refRev(i int) int {
	digits := strings.Split(strconv.FormatInt(int64(i)+256, 2)[1:], "")
	slices.Reverse(digits)
	n, _ := strconv.ParseInt(strings.Join(digits, ""), 2, 64)
	return int(n)
}

// refPower multiplies as often as the exponent tells.
func refPower(exponent int) int {
	w := 1
	for range exponent {
		w = refMod(w * 1753)
	}
	return w
}

// refEach returns what f makes of each coefficient.
func refEach(a api.DPoly, f func(n int) int) api.DPoly {
	for i, x := range a {
		a[i] = int32(f(int(x)))
	}
	return a
}

func refReduce(a api.DPoly) api.DPoly { return refEach(a, refMod) }

func refMul(a, b api.DPoly) api.DPoly {
	var long [511]int
	for i, x := range a {
		for j, y := range b {
			long[i+j] = refMod(long[i+j] + int(x)*int(y))
		}
	}
	var c api.DPoly
	for i := range 511 {
		if i < 256 {
			c[i] = int32(refMod(int(c[i]) + long[i]))
		} else {
			c[i-256] = int32(refMod(int(c[i-256]) - long[i]))
		}
	}
	return c
}

func refNtt(a api.DPoly) api.DPoly {
	var c api.DPoly
	for i := range 256 {
		value, power, w := 0, 1, refPower(2*refRev(i)+1)
		for j := range 256 {
			value = refMod(value + int(a[j])*power)
			power = refMod(power * w)
		}
		c[i] = int32(value)
	}
	return c
}

// refSplit goes through the numbers of steps from the least one on.
func refSplit(n, step int) (high, low int) {
	for low = n; low > step/2; low -= step {
		high++
	}
	return high, low
}

func refDecompose(n int) (high, low int) {
	high, low = refSplit(refMod(n), 523776)
	if refMod(n)-low == 8380416 {
		return 0, low - 1
	}
	return high, low
}

func refUseHint(marked bool, n int) int {
	high, low := refDecompose(n)
	switch {
	case !marked:
		return high
	case low > 0:
		return (high + 1) % 16
	}
	return (high + 15) % 16
}

// refPack writes the digits of all integers as one text.
func refPack(bits int, l []int) []byte {
	var digits []byte
	for _, n := range l {
		for range bits {
			digits = append(digits, byte(n%2))
			n /= 2
		}
	}
	var b []byte
	for eight := range slices.Chunk(digits, 8) {
		n := byte(0)
		for i := 7; i >= 0; i-- {
			n = 2*n + eight[i]
		}
		b = append(b, n)
	}
	return b
}

// refUnpack returns the integers of that many bits in b.
func refUnpack(bits int, b []byte) []int {
	var digits []int
	for _, x := range b {
		for range 8 {
			digits = append(digits, int(x%2))
			x /= 2
		}
	}
	var l []int
	for part := range slices.Chunk(digits, bits) {
		n := 0
		for _, digit := range slices.Backward(part) {
			n = 2*n + digit
		}
		l = append(l, n)
	}
	return l
}

// refPackHints returns nil if there are more than most marks.
func refPackHints(l []api.Hint, most int) []byte {
	var positions, counts []byte
	for _, h := range l {
		for i, marked := range h {
			if marked {
				positions = append(positions, byte(i))
			}
		}
		counts = append(counts, byte(len(positions)))
	}
	if len(positions) > most {
		return nil
	}
	return slices.Concat(positions, make([]byte, most-len(positions)), counts)
}

// refGroups returns the integers less than q in b.
func refGroups(b []byte) []int32 {
	var l []int32
	for g := range slices.Chunk(b, 3) {
		if n := int32(g[0]) + 256*int32(g[1]) + 65536*int32(g[2]&127); n < 8380417 {
			l = append(l, n)
		}
	}
	return l
}

// refHalves returns what the half bytes of b make that count.
func refHalves(eta int, b []byte) []int32 {
	var l []int32
	for _, x := range b {
		for _, h := range []int{int(x & 15), int(x >> 4)} {
			switch {
			case eta == 2 && h < 15:
				l = append(l, int32(refMod(2-h%5)))
			case eta == 4 && h < 9:
				l = append(l, int32(refMod(4-h)))
			}
		}
	}
	return l
}

func refRejNtt(seed []byte) api.DPoly {
	return api.DPoly(refGroups(sha3.SumSHAKE128(seed, 3*1024))[:256])
}

func refRejBounded(eta int, seed []byte) api.DPoly {
	return api.DPoly(refHalves(eta, sha3.SumSHAKE256(seed, 1024))[:256])
}

func refMask(bits int, seed []byte) api.DPoly {
	var a api.DPoly
	for i, n := range refUnpack(bits, sha3.SumSHAKE256(seed, 32*bits)) {
		a[i] = int32(1<<(bits-1) - n)
	}
	return a
}

func refBall(tau int, seed []byte) api.DPoly {
	return refShuffle(tau, sha3.SumSHAKE256(seed, 8+1024))
}

// refShuffle returns what the signs, and the bytes after them, make.
func refShuffle(tau int, b []byte) api.DPoly {
	signs, rest := refUnpack(1, b[:8]), b[8:]
	var c api.DPoly
	for i := 256 - tau; i < 256; i++ {
		for int(rest[0]) > i {
			rest = rest[1:]
		}
		j := rest[0]
		rest = rest[1:]
		c[i] = c[j]
		c[j] = []int32{1, 8380416}[signs[i+tau-256]]
	}
	return c
}

// What the tests are made of.

// ends are coefficients where something ends: the range of int32, that of the centered values, that of the residues, steps.
func ends() []int32 {
	return []int32{
		0, 1, 2, -1, -2, 1 << 22, 1 << 23, 1<<23 - 1, 4096, 4097, 261888, 261889, -261888, -261889, 8118528, 8118529,
		4190207, 4190208, 4190209, -4190208, -4190209, 8380415, 8380416, 8380417, 8380418, -8380416, -8380417, -8380418,
		2*8380417 - 1, 2 * 8380417, 255 * 8380417, 256 * 8380417, -256 * 8380417, math.MaxInt32 - 1, math.MaxInt32, math.MinInt32, math.MinInt32 + 1,
	}
}

// anyPoly returns coefficients of any size.
func anyPoly(draw *rand.Rand) api.DPoly {
	var a api.DPoly
	for i := range a {
		a[i] = int32(draw.Uint32())
	}
	return a
}

// poly returns coefficients from 0 to q - 1.
func poly(draw *rand.Rand) api.DPoly { return refReduce(anyPoly(draw)) }

// within returns coefficients from low to high.
func within(draw *rand.Rand, low, high int) api.DPoly {
	var a api.DPoly
	for i := range a {
		a[i] = int32(low + draw.Intn(high-low+1))
	}
	return a
}

// same returns a polynomial whose coefficients are all n.
func same(n int32) api.DPoly {
	var a api.DPoly
	for i := range a {
		a[i] = n
	}
	return a
}

// row returns 256 consecutive integers.
func row(first int) api.DPoly {
	var a api.DPoly
	for i := range a {
		a[i] = int32(first + i)
	}
	return a
}

// polys are polynomials with few, equal, or drawn coefficients, of any size.
func polys(draw *rand.Rand) []api.DPoly {
	var l []api.DPoly
	for i, n := range ends() {
		l = append(l, same(n))
		for _, at := range []int{0, 1 + 5*i%253, 255} {
			var a api.DPoly
			a[at] = n
			l = append(l, a)
		}
	}
	for range 20 {
		l = append(l, poly(draw), anyPoly(draw), within(draw, -4, 4))
	}
	return l
}

// drawn returns size bytes.
func drawn(draw *rand.Rand, size int) []byte {
	b := make([]byte, size)
	draw.Read(b)
	return b
}

// integers returns the coefficients.
func integers(a api.DPoly) []int {
	var l []int
	for _, x := range a {
		l = append(l, int(x))
	}
	return l
}

// mustPoly returns a, if there is no error.
func mustPoly(t *testing.T, a api.DPoly, e api.Errno) api.DPoly {
	t.Helper()
	if e != api.OK {
		t.Fatal(e)
	}
	return a
}

// mustBytes returns b, if there is no error.
func mustBytes(t *testing.T, b []byte, e api.Errno) []byte {
	t.Helper()
	if e != api.OK {
		t.Fatal(e)
	}
	return b
}
