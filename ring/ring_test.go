package ring

import (
	"math/rand"
	"testing"

	"livery/api"
)

// P13.1: every coefficient that there is, at several positions.
func TestReduce(t *testing.T) {
	for n := range 1 << 16 {
		if n%256 != 0 {
			continue
		}
		var a api.Poly
		for i := range a {
			a[i] = uint16(n + (i+n/256)%256)
		}
		kept := a
		for i, x := range Reduce(a) {
			if int(x) != int(a[i])%3329 {
				t.Fatalf("%d modulo q: %d", a[i], x)
			}
		}
		if a != kept {
			t.Fatal("the argument was changed")
		}
	}
}

// P13.1: sums and differences coefficient by coefficient, also of coefficients of q and above.
func TestAddSub(t *testing.T) {
	draw := rand.New(rand.NewSource(1))
	l := polys(draw)
	for _, a := range l {
		for _, b := range l {
			added, less := Add(a, b), Sub(a, b)
			for i := range a {
				if int(added[i]) != refMod(int(a[i])+int(b[i])) || int(less[i]) != refMod(int(a[i])-int(b[i])) {
					t.Fatalf("%d and %d: %d and %d", a[i], b[i], added[i], less[i])
				}
			}
		}
	}
}

// P13.1: all pairs of coefficients less than q, and q itself.
func TestAddSubOfEachPair(t *testing.T) {
	for n := range 3330 {
		for first := 0; first < 3330; first += 256 {
			a := same(uint16(n))
			var b api.Poly
			for i := range b {
				b[i] = uint16(first + i)
			}
			added, less := Add(a, b), Sub(a, b)
			for i, x := range b {
				if int(added[i]) != (n+int(x))%3329 || int(less[i]) != refMod(n-int(x)) {
					t.Fatalf("%d and %d: %d and %d", n, x, added[i], less[i])
				}
			}
		}
	}
}

// P13.1: products as by hand, coefficient by coefficient.
func TestMul(t *testing.T) {
	draw := rand.New(rand.NewSource(2))
	l := polys(draw)
	for i, a := range l {
		for _, b := range []api.Poly{l[(7*i+3)%len(l)], l[draw.Intn(len(l))], a, poly(draw), anyPoly(draw)} {
			if got, want := Mul(a, b), refMul(a, b); got != want {
				t.Fatalf("%v times %v: %v, and not %v", a, b, got, want)
			}
		}
	}
}

// P13.1: powers of X, of which the 256th is -1.
func TestMulOfPowers(t *testing.T) {
	for i := range 256 {
		for _, j := range []int{0, 1, 2, 127, 128, 129, 254, 255} {
			var a, b, want api.Poly
			a[i], b[j], want[(i+j)%256] = 1, 3, 3
			if i+j >= 256 {
				want[i+j-256] = 3326
			}
			if got := Mul(a, b); got != want {
				t.Fatalf("3 times X to the %d and %d: %v", i, j, got)
			}
		}
	}
}

// P13.8: both operations are commutative and associative, one distributes over the other, and 0 and 1 are what they are.
func TestRing(t *testing.T) {
	draw := rand.New(rand.NewSource(3))
	zero, one := api.Poly{}, api.Poly{1}
	for range 200 {
		a, b, c := anyPoly(draw), anyPoly(draw), poly(draw)
		for _, sides := range [][2]api.Poly{
			{Add(a, b), Add(b, a)},
			{Mul(a, b), Mul(b, a)},
			{Add(Add(a, b), c), Add(a, Add(b, c))},
			{Mul(Mul(a, b), c), Mul(a, Mul(b, c))},
			{Mul(a, Add(b, c)), Add(Mul(a, b), Mul(a, c))},
			{Mul(Sub(a, b), c), Sub(Mul(a, c), Mul(b, c))},
			{Add(a, zero), Reduce(a)},
			{Mul(a, one), Reduce(a)},
			{Mul(a, zero), zero},
			{Sub(a, a), zero},
			{Add(Sub(a, b), b), Reduce(a)},
			{Sub(zero, Sub(a, b)), Sub(b, a)},
		} {
			if sides[0] != sides[1] {
				t.Fatalf("%v and %v and %v: %v is not %v", a, b, c, sides[0], sides[1])
			}
		}
	}
}
