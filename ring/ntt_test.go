package ring

import (
	"math/rand"
	"testing"

	"livery/api"
)

// published are the powers that FIPS 203 lists in appendix A, each of which is followed there by its negative.
func published() [64]int {
	return [64]int{
		17, 2761, 583, 2649, 1637, 723, 2288, 1100, 1409, 2662, 3281, 233, 756, 2156, 3015, 3050,
		1703, 1651, 2789, 1789, 1847, 952, 1461, 2687, 939, 2308, 2437, 2388, 733, 2337, 268, 641,
		1584, 2298, 2037, 3220, 375, 2549, 2090, 1645, 1063, 319, 2773, 757, 2099, 561, 2466, 2594,
		2804, 1092, 403, 1026, 1143, 2150, 2775, 886, 1722, 1212, 1874, 1029, 2110, 2935, 885, 2154,
	}
}

// P13.2: the transform of X^2 has the published powers, and that of X^3 has them one further on.
func TestNttKnown(t *testing.T) {
	square, cube := Ntt(api.Poly{2: 1}), Ntt(api.Poly{3: 1})
	for i, g := range published() {
		want := [4]uint16{uint16(g), 0, uint16(3329 - g), 0}
		if [4]uint16(square[4*i:4*i+4]) != want {
			t.Errorf("X^2 from %d on: %v", 4*i, square[4*i:4*i+4])
		}
		if cube[4*i] != 0 || [3]uint16(cube[4*i+1:4*i+4]) != [3]uint16(want[:3]) {
			t.Errorf("X^3 from %d on: %v", 4*i, cube[4*i:4*i+4])
		}
	}
	for i, x := range Ntt(api.Poly{1}) {
		if int(x) != 1-i%2 {
			t.Errorf("1 has %d at %d", x, i)
		}
	}
}

// P13.2: every power of X, of which all transforms are made, and its greatest multiple.
func TestNttOfPowers(t *testing.T) {
	for i := range 256 {
		for _, n := range []uint16{1, 3328} {
			var a api.Poly
			a[i] = n
			if got, want := Ntt(a), refNtt(a); got != want {
				t.Fatalf("%d times X to the %d: %v, and not %v", n, i, got, want)
			}
			if got := Inv(refNtt(a)); got != a {
				t.Fatalf("back to %d times X to the %d: %v", n, i, got)
			}
		}
	}
}

// P13.2: any polynomial, also with coefficients of q and above, there and back.
func TestNtt(t *testing.T) {
	draw := rand.New(rand.NewSource(4))
	for _, a := range polys(draw) {
		kept := a
		want := refNtt(a)
		if got := Ntt(a); got != want {
			t.Fatalf("%v: %v, and not %v", a, got, want)
		}
		if got := Inv(want); got != refReduce(a) {
			t.Fatalf("back to %v: %v", a, got)
		}
		if a != kept {
			t.Fatal("the argument was changed")
		}
	}
}

// P13.2: Inv takes coefficients modulo q.
func TestInvReduces(t *testing.T) {
	draw := rand.New(rand.NewSource(5))
	for _, a := range polys(draw) {
		if refNtt(Inv(a)) != refReduce(a) {
			t.Fatalf("%v", a)
		}
	}
}

// P13.2: pairs are multiplied modulo their own X^2 - g(i), also those of q and above.
func TestMulNtt(t *testing.T) {
	draw := rand.New(rand.NewSource(6))
	l := polys(draw)
	for i, a := range l {
		for _, b := range []api.Poly{l[(5*i+1)%len(l)], l[draw.Intn(len(l))], a, anyPoly(draw)} {
			if got, want := MulNtt(a, b), refMulNtt(a, b); got != want {
				t.Fatalf("%v and %v: %v, and not %v", a, b, got, want)
			}
		}
	}
}

// P13.2: X times X is g(i) in each pair, and no pair hangs on another one.
func TestMulNttOfSinglePairs(t *testing.T) {
	g := published()
	for i := range 128 {
		want := g[i/2]
		if i%2 == 1 {
			want = 3329 - want
		}
		var x, square api.Poly
		x[2*i+1], square[2*i] = 1, uint16(want)
		if got := MulNtt(x, x); got != square {
			t.Fatalf("pair %d: %v", i, got)
		}
	}
}

// P13.6: both ways round.
func TestTransformRoundTrips(t *testing.T) {
	draw := rand.New(rand.NewSource(7))
	for _, a := range polys(draw) {
		if Inv(Ntt(a)) != refReduce(a) || Ntt(Inv(a)) != refReduce(a) {
			t.Fatalf("%v", a)
		}
	}
}

// P13.7: transforms of products are products pair by pair, and those of sums are sums.
func TestProducts(t *testing.T) {
	draw := rand.New(rand.NewSource(8))
	l := polys(draw)
	for i, a := range l {
		for _, b := range []api.Poly{l[(11*i+5)%len(l)], anyPoly(draw)} {
			if Ntt(refMul(a, b)) != MulNtt(Ntt(a), Ntt(b)) || Ntt(Mul(a, b)) != MulNtt(Ntt(a), Ntt(b)) {
				t.Fatalf("the product of %v and %v", a, b)
			}
			if Ntt(Add(a, b)) != Add(Ntt(a), Ntt(b)) || Ntt(Sub(a, b)) != Sub(Ntt(a), Ntt(b)) {
				t.Fatalf("the sum of %v and %v", a, b)
			}
		}
	}
}
