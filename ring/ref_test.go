package ring

import (
	"crypto/sha3"
	"math/rand"
	"slices"
	"strconv"
	"strings"
	"testing"

	"livery/api"
)

// The chapter, step by step, with integers of full width and the SHAKE of the standard library.

// refMod returns n modulo q, also of negative integers.
func refMod(n int) int { return (n%3329 + 3329) % 3329 }

// refRev reverses the digits in a text.
func refRev(i int) int {
	digits := strings.Split(strconv.FormatInt(int64(i)+128, 2)[1:], "")
	slices.Reverse(digits)
	n, _ := strconv.ParseInt(strings.Join(digits, ""), 2, 64)
	return int(n)
}

// refG multiplies as often as the exponent tells.
func refG(i int) int {
	g := 1
	for range 2*refRev(i) + 1 {
		g = refMod(g * 17)
	}
	return g
}

func refReduce(a api.Poly) api.Poly {
	for i, x := range a {
		a[i] = uint16(refMod(int(x)))
	}
	return a
}

func refMul(a, b api.Poly) api.Poly {
	var long [511]int
	for i, x := range a {
		for j, y := range b {
			long[i+j] = refMod(long[i+j] + int(x)*int(y))
		}
	}
	var c api.Poly
	for i := range 511 {
		if i < 256 {
			c[i] = uint16(refMod(int(c[i]) + long[i]))
		} else {
			c[i-256] = uint16(refMod(int(c[i-256]) - long[i]))
		}
	}
	return c
}

func refNtt(a api.Poly) api.Poly {
	var c api.Poly
	for i := range 128 {
		even, odd, power, g := 0, 0, 1, refG(i)
		for j := range 128 {
			even = refMod(even + int(a[2*j])*power)
			odd = refMod(odd + int(a[2*j+1])*power)
			power = refMod(power * g)
		}
		c[2*i], c[2*i+1] = uint16(even), uint16(odd)
	}
	return c
}

// refMulNtt multiplies pairs as polynomials, and puts g(i) for X^2.
func refMulNtt(a, b api.Poly) api.Poly {
	var c api.Poly
	for i := range 128 {
		var square [3]int
		for j := range 2 {
			for k := range 2 {
				square[j+k] += int(a[2*i+j]) * int(b[2*i+k])
			}
		}
		c[2*i], c[2*i+1] = uint16(refMod(square[0]+square[2]%3329*refG(i))), uint16(refMod(square[1]))
	}
	return c
}

// refNearest returns the integer that is nearest to n / by, halves rounded up: it goes through them one by one.
func refNearest(n, by int) int {
	nearest := n / by
	for 2*(n-nearest*by) >= by {
		nearest++
	}
	return nearest
}

// refEncode writes the digits of all integers as one text.
func refEncode(d int, a api.Poly) []byte {
	var digits []byte
	for _, x := range a {
		n := int(x)
		if d == 12 {
			n = refMod(n)
		}
		for range d {
			digits = append(digits, byte(n%2))
			n /= 2
		}
	}
	var b []byte
	for eight := range slices.Chunk(digits, 8) {
		n := byte(0)
		for i := 7; i >= 0; i-- {
			n = 2*n + eight[i]
		}
		b = append(b, n)
	}
	return b
}

// refBits returns the binary digits of b, the least significant of each byte first.
func refBits(b []byte) []int {
	var l []int
	for _, x := range b {
		for range 8 {
			l = append(l, int(x%2))
			x /= 2
		}
	}
	return l
}

// refIntegers returns the integers of d bits in b.
func refIntegers(d int, b []byte) []int {
	var l []int
	for digits := range slices.Chunk(refBits(b), d) {
		n := 0
		for _, digit := range slices.Backward(digits) {
			n = 2*n + digit
		}
		l = append(l, n)
	}
	return l
}

func refSampleNtt(t *testing.T, seed []byte) api.Poly {
	t.Helper()
	b := sha3.SumSHAKE128(seed, 3*1024)
	var l []uint16
	for i := 0; i < len(b); i += 3 {
		b0, b1, b2 := int(b[i]), int(b[i+1]), int(b[i+2])
		for _, n := range []int{b0 + 256*(b1%16), b1/16 + 16*b2} {
			if n < 3329 {
				l = append(l, uint16(n))
			}
		}
	}
	if len(l) < 256 {
		t.Fatalf("%x has too few integers", seed)
	}
	return api.Poly(l[:256])
}

func refCbd(eta int, b []byte) api.Poly {
	l := refBits(b)
	count := func(from int) int {
		n := 0
		for j := range eta {
			n += l[from+j]
		}
		return n
	}
	var a api.Poly
	for i := range a {
		a[i] = uint16(refMod(count(2*eta*i) - count(2*eta*i+eta)))
	}
	return a
}

// What the tests are made of.

// anyPoly returns coefficients of any size.
func anyPoly(draw *rand.Rand) api.Poly {
	var a api.Poly
	for i := range a {
		a[i] = uint16(draw.Intn(1 << 16))
	}
	return a
}

// poly returns coefficients less than q.
func poly(draw *rand.Rand) api.Poly { return refReduce(anyPoly(draw)) }

// same returns a polynomial whose coefficients are all n.
func same(n uint16) api.Poly {
	var a api.Poly
	for i := range a {
		a[i] = n
	}
	return a
}

// polys are polynomials with few, equal, or drawn coefficients, also with those of q and above.
func polys(draw *rand.Rand) []api.Poly {
	var l []api.Poly
	for _, n := range []uint16{0, 1, 2, 1664, 1665, 3328, 3329, 3330, 4095, 4096, 6657, 6658, 1 << 15, 65534, 65535} {
		l = append(l, same(n))
		for _, i := range []int{0, 1, 2, 3, 127, 128, 129, 254, 255} {
			var a api.Poly
			a[i] = n
			l = append(l, a)
		}
	}
	for range 30 {
		l = append(l, poly(draw), anyPoly(draw))
	}
	return l
}

// drawn returns size bytes.
func drawn(draw *rand.Rand, size int) []byte {
	b := make([]byte, size)
	draw.Read(b)
	return b
}

// mustPoly returns a, if there is no error.
func mustPoly(t *testing.T, a api.Poly, e api.Errno) api.Poly {
	t.Helper()
	if e != api.OK {
		t.Fatal(e)
	}
	return a
}

// mustBytes returns b, if there is no error.
func mustBytes(t *testing.T, b []byte, e api.Errno) []byte {
	t.Helper()
	if e != api.OK {
		t.Fatal(e)
	}
	return b
}
