package dring

import (
	"math"
	"math/rand"
	"testing"

	"livery/api"
)

// checkReduce checks Reduce and Center of each coefficient, and that a is as it was.
func checkReduce(t *testing.T, a api.DPoly) {
	t.Helper()
	kept, reduced, centered := a, Reduce(a), Center(a)
	for i, x := range kept {
		if int(reduced[i]) != refMod(int(x)) || int(centered[i]) != refCenter(int(x)) {
			t.Fatalf("%d: %d, or centered %d", x, reduced[i], centered[i])
		}
	}
	if a != kept {
		t.Fatal("the argument was changed")
	}
}

// P15.1: each coefficient from -q to 2 q.
func TestReduceOfEach(t *testing.T) {
	for first := -8380417 - 255; first < 2*8380417; first += 256 {
		checkReduce(t, row(first))
	}
}

// P15.1: around each multiple of q and of half of it that there is, and at the ends of the range.
func TestReduce(t *testing.T) {
	for n := -512; n <= 512; n++ {
		first := n*8380417/2 - 128
		if first >= math.MinInt32 && first+255 <= math.MaxInt32 {
			checkReduce(t, row(first))
		}
	}
	checkReduce(t, row(math.MinInt32))
	checkReduce(t, row(math.MaxInt32-255))
	draw := rand.New(rand.NewSource(1))
	for range 2000 {
		checkReduce(t, anyPoly(draw))
	}
}

// P15.1: where centered values change their sign.
func TestCenterKnown(t *testing.T) {
	a := Center(api.DPoly{0, 1, -1, 4190208, 4190209, -4190208, -4190209, 8380416, 8380417, 8380418, -8380417})
	want := api.DPoly{0, 1, -1, 4190208, -4190208, -4190208, 4190208, -1, 0, 1, 0}
	if a != want {
		t.Errorf("%v", a[:11])
	}
}

// P15.1: the greatest absolute value, wherever it is, and whatever its sign.
func TestNorm(t *testing.T) {
	draw := rand.New(rand.NewSource(2))
	for _, n := range ends() {
		want := max(refCenter(int(n)), -refCenter(int(n)))
		for i := range 256 {
			var a api.DPoly
			a[i] = n
			if got := Norm(a); int(got) != want {
				t.Fatalf("%d at %d: %d", n, i, got)
			}
			small := within(draw, -want, want)
			small[i] = n
			if got := Norm(small); int(got) != want {
				t.Fatalf("%d at %d, of %v: %d", n, i, small, got)
			}
		}
	}
	for _, a := range polys(draw) {
		want := 0
		for _, n := range integers(a) {
			want = max(want, refCenter(n), -refCenter(n))
		}
		if got := Norm(a); int(got) != want {
			t.Fatalf("%v: %d, and not %d", a, got, want)
		}
	}
}

// P15.1: sums and differences coefficient by coefficient, also of negative ones and those of q and above.
func TestAddSub(t *testing.T) {
	draw := rand.New(rand.NewSource(3))
	l := polys(draw)
	for _, a := range l {
		for _, b := range l {
			added, less := Add(a, b), Sub(a, b)
			for i := range a {
				if int(added[i]) != refMod(int(a[i])+int(b[i])) || int(less[i]) != refMod(int(a[i])-int(b[i])) {
					t.Fatalf("%d and %d: %d and %d", a[i], b[i], added[i], less[i])
				}
			}
		}
	}
}

// P15.1: products as by hand, coefficient by coefficient.
func TestMul(t *testing.T) {
	draw := rand.New(rand.NewSource(4))
	l := polys(draw)
	for i, a := range l {
		for _, b := range []api.DPoly{l[(7*i+3)%len(l)], a, poly(draw), anyPoly(draw), within(draw, -1, 1)} {
			if got, want := Mul(a, b), refMul(a, b); got != want {
				t.Fatalf("%v times %v: %v, and not %v", a, b, got, want)
			}
		}
	}
}

// P15.1: powers of X, of which the 256th is -1.
func TestMulOfPowers(t *testing.T) {
	for i := range 256 {
		for _, j := range []int{0, 1, 2, 127, 128, 129, 254, 255} {
			var a, b, want api.DPoly
			a[i], b[j], want[(i+j)%256] = -1, 3, 8380414
			if i+j >= 256 {
				want[i+j-256] = 3
			}
			if got := Mul(a, b); got != want {
				t.Fatalf("-3 times X to the %d and %d: %v", i, j, got)
			}
		}
	}
}

// P15.1: what holds for the operations of any ring.
func TestRing(t *testing.T) {
	draw := rand.New(rand.NewSource(5))
	zero, one := api.DPoly{}, api.DPoly{1}
	for range 100 {
		a, b, c := anyPoly(draw), anyPoly(draw), poly(draw)
		for _, sides := range [][2]api.DPoly{
			{Add(a, b), Add(b, a)},
			{Mul(a, b), Mul(b, a)},
			{Add(Add(a, b), c), Add(a, Add(b, c))},
			{Mul(Mul(a, b), c), Mul(a, Mul(b, c))},
			{Mul(a, Add(b, c)), Add(Mul(a, b), Mul(a, c))},
			{Mul(Sub(a, b), c), Sub(Mul(a, c), Mul(b, c))},
			{Add(a, zero), Reduce(a)},
			{Mul(a, one), Reduce(a)},
			{Mul(a, zero), zero},
			{Sub(a, a), zero},
			{Add(Sub(a, b), b), Reduce(a)},
			{Sub(zero, Sub(a, b)), Sub(b, a)},
			{Reduce(Center(a)), Reduce(a)},
		} {
			if sides[0] != sides[1] {
				t.Fatalf("%v and %v and %v: %v is not %v", a, b, c, sides[0], sides[1])
			}
		}
	}
}
