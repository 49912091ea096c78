package dring

import (
	"math/rand"
	"testing"

	"livery/api"
)

// rows are all residues, in order, and then coefficients that are none.
func rows(yield func(a api.DPoly) bool) {
	for first := 0; first < 8380417; first += 256 {
		if !yield(refReduce(row(first))) {
			return
		}
	}
	draw := rand.New(rand.NewSource(11))
	for _, a := range polys(draw) {
		if !yield(a) {
			return
		}
	}
}

// P15.3, P15.10: each residue, and coefficients that are taken modulo q.
func TestPower2Round(t *testing.T) {
	for a := range rows {
		kept := a
		high, low := Power2Round(a)
		for i, x := range a {
			h, l, n := int(high[i]), int(low[i]), refMod(int(x))
			if h*8192+l != n || l <= -4096 || l > 4096 {
				t.Fatalf("%d: %d and %d", x, h, l)
			}
		}
		if a != kept {
			t.Fatal("the argument was changed")
		}
	}
}

// P15.3: the chapter's example, and halves of a step.
func TestPower2RoundKnown(t *testing.T) {
	for _, c := range [][3]int32{
		{0, 0, 0}, {1, 0, 1}, {4095, 0, 4095}, {4096, 0, 4096}, {4097, 1, -4095}, {8191, 1, -1}, {8192, 1, 0}, {12288, 1, 4096}, {12289, 2, -4095},
		{8380416, 1023, 0}, {8380417, 0, 0}, {-1, 1023, 0}, {-4096, 1023, -4095}, {8376320, 1022, 4096}, {8376321, 1023, -4095},
	} {
		high, low := Power2Round(same(c[0]))
		if high != same(c[1]) || low != same(c[2]) {
			t.Errorf("%d: %d and %d", c[0], high[0], low[0])
		}
	}
}

// P15.3, P15.10: each residue, and coefficients that are taken modulo q.
func TestDecompose(t *testing.T) {
	for a := range rows {
		kept := a
		high, low := Decompose(a)
		for i, x := range a {
			h, l := refDecompose(int(x))
			if int(high[i]) != h || int(low[i]) != l {
				t.Fatalf("%d: %d and %d, and not %d and %d", x, high[i], low[i], h, l)
			}
			if refMod(h*523776+l) != refMod(int(x)) || l < -261888 || l > 261888 || h < 0 || h > 15 {
				t.Fatalf("%d: %d and %d", x, h, l)
			}
		}
		if a != kept {
			t.Fatal("the argument was changed")
		}
	}
}

// P15.3: the chapter's example, halves of a step, and the last step, which is none.
func TestDecomposeKnown(t *testing.T) {
	for _, c := range [][3]int32{
		{0, 0, 0}, {1, 0, 1}, {261888, 0, 261888}, {261889, 1, -261887}, {523776, 1, 0}, {785664, 1, 261888}, {785665, 2, -261887},
		{8118528, 15, 261888}, {8118529, 0, -261888}, {8118530, 0, -261887}, {8380415, 0, -2}, {8380416, 0, -1}, {8380417, 0, 0},
		{-1, 0, -1}, {-261888, 0, -261888}, {-261889, 15, 261888}, {-8380417, 0, 0}, {7856640, 15, 0},
	} {
		high, low := Decompose(same(c[0]))
		if high != same(c[1]) || low != same(c[2]) {
			t.Errorf("%d: %d and %d", c[0], high[0], low[0])
		}
	}
}

// checkHint checks the marks of z and r, and their number.
func checkHint(t *testing.T, z, r api.DPoly) {
	t.Helper()
	h, count := MakeHint(z, r)
	marks := 0
	for i := range h {
		before, _ := refDecompose(int(r[i]))
		after, _ := refDecompose(int(r[i]) + int(z[i]))
		if h[i] != (before != after) {
			t.Fatalf("%d and %d: %v", z[i], r[i], h[i])
		}
		if h[i] {
			marks++
		}
	}
	if count != marks {
		t.Fatalf("%d marks, and not %d", count, marks)
	}
}

// P15.4: marks where the step changes, and only there.
func TestMakeHint(t *testing.T) {
	draw := rand.New(rand.NewSource(12))
	for _, n := range ends() {
		for step := range 17 {
			checkHint(t, same(n), row(step*523776+261888-128))
			checkHint(t, same(n), row(step*523776-128))
		}
	}
	l := polys(draw)
	for i, z := range l {
		for _, r := range []api.DPoly{l[(13*i+7)%len(l)], anyPoly(draw), poly(draw)} {
			checkHint(t, z, r)
			checkHint(t, within(draw, -261888, 261888), r)
			checkHint(t, within(draw, -3000, 3000), r)
		}
	}
}

// P15.4: single marks, none, and all of them.
func TestMakeHintKnown(t *testing.T) {
	for i := range 256 {
		r := same(261888)
		r[i] = 261889
		z := same(0)
		z[i] = -1
		var want api.Hint
		want[i] = true
		if h, count := MakeHint(z, r); h != want || count != 1 {
			t.Fatalf("a mark at %d: %v %d", i, h, count)
		}
	}
	if h, count := MakeHint(same(0), same(8380416)); h != (api.Hint{}) || count != 0 {
		t.Errorf("nothing: %v %d", h, count)
	}
	if _, count := MakeHint(same(1), same(8118528)); count != 256 {
		t.Errorf("the step after the last one: %d", count)
	}
	if _, count := MakeHint(same(1), same(8380416)); count != 0 {
		t.Errorf("from -1 to 0: %d", count)
	}
}

// P15.4: each residue, with a mark and without one.
func TestUseHint(t *testing.T) {
	var all, even api.Hint
	for i := range all {
		all[i], even[i] = true, i%2 == 0
	}
	for a := range rows {
		for _, h := range []api.Hint{{}, all, even} {
			kept := h
			got := UseHint(h, a)
			for i, x := range a {
				if int(got[i]) != refUseHint(h[i], int(x)) {
					t.Fatalf("%d with %v: %d", x, h[i], got[i])
				}
			}
			if h != kept {
				t.Fatal("the argument was changed")
			}
		}
	}
}

// P15.4: a low part of 0 is not positive, and steps are counted modulo 16.
func TestUseHintKnown(t *testing.T) {
	var all api.Hint
	for i := range all {
		all[i] = true
	}
	for _, c := range [][2]int32{
		{0, 15}, {1, 1}, {261888, 1}, {261889, 0}, {523776, 0}, {523777, 2}, {7856640, 14}, {7856641, 0}, {8118528, 0}, {8118529, 15}, {8380416, 15}, {-1, 15},
	} {
		if got := UseHint(all, same(c[0])); got != same(c[1]) {
			t.Errorf("%d: %d", c[0], got[0])
		}
	}
}

// checkCorrection checks that the hint of z and r leads to the high part of r + z.
func checkCorrection(t *testing.T, z, r api.DPoly) {
	t.Helper()
	h, _ := MakeHint(z, r)
	want, _ := Decompose(Add(r, z))
	if got := UseHint(h, r); got != want {
		t.Fatalf("%v and %v: %v, and not %v", z, r, got, want)
	}
}

// P15.11: for each residue, with what may be added at most, and with little.
func TestCorrection(t *testing.T) {
	draw := rand.New(rand.NewSource(13))
	for r := range rows {
		checkCorrection(t, same(261888), r)
		checkCorrection(t, same(-261888), r)
		checkCorrection(t, within(draw, -261888, 261888), r)
		checkCorrection(t, within(draw, -2, 2), r)
	}
	for range 2000 {
		z := Add(within(draw, -261888, 261888), same(0))
		if Norm(z) > 261888 {
			t.Fatal(z)
		}
		checkCorrection(t, z, anyPoly(draw))
	}
}
