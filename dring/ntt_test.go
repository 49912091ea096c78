package dring

import (
	"math/rand"
	"testing"

	"livery/api"
)

// published are the first powers that FIPS 204 lists in appendix B, from the second one on.
func published() []int32 {
	return []int32{
		4808194, 3765607, 3761513, 5178923, 5496691, 5234739, 5178987, 7778734, 3542485, 2682288, 2129892, 3764867, 7375178, 557458, 7159240,
		5010068, 4317364, 2663378, 6705802, 4855975, 7946292, 676590, 7044481, 5152541, 1714295, 2453983, 1460718, 7737789, 4795319, 2815639, 2283733,
	}
}

// P15.2: the transforms of X^128, X^64 and so on have the published powers, and their negatives, in equal parts.
func TestNttKnown(t *testing.T) {
	l := published()
	for parts := 1; parts <= 16; parts *= 2 {
		var a, want api.DPoly
		a[128/parts] = 1
		for i := range want {
			part := i * parts / 256
			want[i] = l[parts-1+part]
			if i*parts*2/256%2 == 1 {
				want[i] = 8380417 - want[i]
			}
		}
		if got := Ntt(a); got != want {
			t.Errorf("X to the %d: %v, and not %v", 128/parts, got, want)
		}
	}
	if Ntt(api.DPoly{1}) != same(1) || Ntt(api.DPoly{}) != (api.DPoly{}) {
		t.Error("1 or 0")
	}
	if a := Ntt(api.DPoly{0, 1}); a[0] != 1753 || a[1] != 8380417-1753 {
		t.Error(a[0], a[1])
	}
}

// P15.2: every power of X, of which all transforms are made, and its negative.
func TestNttOfPowers(t *testing.T) {
	for i := range 256 {
		for _, n := range []int32{1, 8380416} {
			var a api.DPoly
			a[i] = n
			want := refNtt(a)
			if got := Ntt(a); got != want {
				t.Fatalf("%d times X to the %d: %v, and not %v", n, i, got, want)
			}
			if got := Inv(want); got != a {
				t.Fatalf("back to %d times X to the %d: %v", n, i, got)
			}
		}
	}
}

// P15.2: any polynomial, also with negative coefficients and those of q and above, there and back.
func TestNtt(t *testing.T) {
	draw := rand.New(rand.NewSource(6))
	for _, a := range polys(draw) {
		kept := a
		want := refNtt(a)
		if got := Ntt(a); got != want {
			t.Fatalf("%v: %v, and not %v", a, got, want)
		}
		if got := Inv(want); got != refReduce(a) {
			t.Fatalf("back to %v: %v", a, got)
		}
		if a != kept {
			t.Fatal("the argument was changed")
		}
	}
}

// P15.2: Inv takes coefficients modulo q.
func TestInvReduces(t *testing.T) {
	draw := rand.New(rand.NewSource(7))
	for _, a := range polys(draw) {
		if refNtt(Inv(a)) != refReduce(a) {
			t.Fatalf("%v", a)
		}
	}
}

// P15.2: coefficient by coefficient, also of negative ones and those of q and above.
func TestMulNtt(t *testing.T) {
	draw := rand.New(rand.NewSource(8))
	l := polys(draw)
	for _, a := range l {
		for _, b := range l {
			got := MulNtt(a, b)
			for i, x := range got {
				if int(x) != refMod(int(a[i])*int(b[i])) {
					t.Fatalf("%d times %d: %d", a[i], b[i], x)
				}
			}
		}
	}
}

// P15.8: both ways round.
func TestTransformRoundTrips(t *testing.T) {
	draw := rand.New(rand.NewSource(9))
	for range 20 {
		for _, a := range polys(draw) {
			if Inv(Ntt(a)) != refReduce(a) || Ntt(Inv(a)) != refReduce(a) {
				t.Fatalf("%v", a)
			}
		}
	}
}

// P15.9: transforms of products are products coefficient by coefficient, and those of sums are sums.
func TestProducts(t *testing.T) {
	draw := rand.New(rand.NewSource(10))
	l := polys(draw)
	for i, a := range l {
		for _, b := range []api.DPoly{l[(11*i+5)%len(l)], anyPoly(draw)} {
			if Ntt(refMul(a, b)) != MulNtt(Ntt(a), Ntt(b)) || Ntt(Mul(a, b)) != MulNtt(Ntt(a), Ntt(b)) {
				t.Fatalf("the product of %v and %v", a, b)
			}
			if Ntt(Add(a, b)) != Add(Ntt(a), Ntt(b)) || Ntt(Sub(a, b)) != Sub(Ntt(a), Ntt(b)) {
				t.Fatalf("the sum of %v and %v", a, b)
			}
		}
	}
}
