package hss

import (
	"math"
	"math/rand"
	"slices"
	"testing"

	"livery/api"
	"livery/param"
)

// notLevels are levels of which a code is none, or whose sets do not fit.
func notLevels() []api.Level {
	return []api.Level{
		{}, {Lms: 5}, {Ots: 1}, {Lms: 4, Ots: 1}, {Lms: 25, Ots: 16}, {Lms: 5, Ots: 17}, {Lms: 24, Ots: math.MaxUint32}, {Lms: math.MaxUint32, Ots: 1},
		{Lms: api.LmsOwn, Ots: 1}, {Lms: api.LmsOwn + 5, Ots: 1}, {Lms: api.LmsOwn + 16, Ots: 5}, {Lms: api.LmsOwn + 65, Ots: 13}, {Lms: api.XmssOwn + 1, Ots: 1}, {Lms: 1, Ots: 5},
		{Lms: 5, Ots: 5}, {Lms: 10, Ots: 4}, {Lms: 10, Ots: 13}, {Lms: 15, Ots: 4}, {Lms: api.LmsOwn + 18, Ots: 2}, {Lms: api.LmsOwn + 50, Ots: 12},
	}
}

// checkLevels tells whether each function with levels takes these as valid, or not.
func checkLevels(t *testing.T, l []api.Level, valid bool) {
	t.Helper()
	want := api.ErrLevels
	if valid {
		want = api.OK
	}
	if e := May(l); e != want {
		t.Fatalf("%v: %d, not %d", l, e, want)
	}
	if n := Len(l); (n > 0) != valid {
		t.Fatalf("%v: length %d", l, n)
	}
	if valid {
		return
	}
	for _, c := range calls() {
		for _, n := range []int{0, 24, 32} {
			for _, index := range []uint64{0, math.MaxUint64} {
				if zero, e := c.result(key{l: l, seed: make([]byte, n)}, index); e != api.ErrLevels || !zero {
					t.Fatalf("%s, %v, seed of %d bytes, index %d: %d, zero %v", c.name, l, n, index, e, zero)
				}
			}
		}
	}
}

// P9.1: one level is valid if its codes are of sets that fit.
func TestOneLevel(t *testing.T) {
	for l := range param.LmsCodes() {
		for o := range param.OtsCodes() {
			v := api.Level{Lms: l, Ots: o}
			checkLevels(t, []api.Level{v}, slices.Contains(singles(t), v))
		}
	}
	for _, v := range notLevels() {
		checkLevels(t, []api.Level{v}, false)
	}
}

// P9.1: two levels are valid if both are, and have the same hash and N.
func TestTwoLevels(t *testing.T) {
	all := singles(t)
	for i, a := range all {
		for j, b := range all {
			checkLevels(t, []api.Level{a, b}, i/36 == j/36)
		}
	}
}

// P9.1: every level is checked, wherever it stands.
func TestEachLevel(t *testing.T) {
	for n := range api.MaxLevels {
		good := slices.Repeat([]api.Level{level(1, 2, 4)}, n+1)
		checkLevels(t, good, true)
		for i := range good {
			for _, v := range append(notLevels(), level(0, 2, 4), level(2, 2, 4), level(3, 2, 4)) {
				bad := slices.Clone(good)
				bad[i] = v
				checkLevels(t, bad, n == 0 && May([]api.Level{v}) == api.OK)
			}
		}
	}
}

// P9.1: there are 1 to MaxLevels levels.
func TestNumberOfLevels(t *testing.T) {
	for f := range 4 {
		v := level(f, 1, 1)
		for n := range 20 {
			checkLevels(t, slices.Repeat([]api.Level{v}, n), 1 <= n && n <= 8)
		}
		checkLevels(t, slices.Repeat([]api.Level{v}, 1<<16), false)
	}
	checkLevels(t, nil, false)
	checkLevels(t, []api.Level{}, false)
}

// P9.1: the heights are at most 60 together.
func TestHeights(t *testing.T) {
	for f := range 4 {
		for _, c := range []struct {
			heights []int
			valid   bool
		}{
			{[]int{25, 25}, true},
			{[]int{25, 25, 10}, true},
			{[]int{25, 25, 10, 1}, false},
			{[]int{1, 25, 25, 10}, false},
			{[]int{25, 25, 15}, false},
			{[]int{25, 25, 25, 25, 25, 25, 25, 25}, false},
			{[]int{20, 20, 20}, true},
			{[]int{20, 20, 20, 1}, false},
			{[]int{15, 15, 15, 15}, true},
			{[]int{10, 10, 10, 10, 10, 10}, true},
			{[]int{10, 10, 10, 10, 10, 5, 4, 1}, true},
			{[]int{10, 10, 10, 10, 10, 5, 4, 2}, false},
			{[]int{10, 10, 10, 10, 10, 10, 1}, false},
			{[]int{4, 2, 10, 10, 10, 10, 10, 5}, false},
			{[]int{5, 5, 5, 5, 5, 5, 5, 25}, true},
		} {
			var l []api.Level
			sum := 0
			for i, h := range c.heights {
				l = append(l, level(f, h, 1<<(i%4)))
				sum += h
			}
			checkLevels(t, l, c.valid)
			if n, e := Count(l); c.valid && (e != api.OK || n != 1<<sum) {
				t.Errorf("%v: %d %d", l, n, e)
			}
		}
	}
}

// The chapter's example.
func TestExample(t *testing.T) {
	for f := range 4 {
		l := []api.Level{level(f, 2, 1), level(f, 3, 8)}
		if n, e := Count(l); e != api.OK || n != 32 {
			t.Errorf("%v: %d %d", l, n, e)
		}
		if q, e := Split(l, 13); e != api.OK || !slices.Equal(q, []uint32{1, 5}) {
			t.Errorf("%v: %v %d", l, q, e)
		}
	}
}

// P9.1, P9.5: the leaves of each index, by which it is determined.
func TestSplit(t *testing.T) {
	for _, k := range keys(t) {
		if n, e := Count(k.l); e != api.OK || n != uint64(k.count(t)) {
			t.Errorf("%v: %d %d", k.l, n, e)
		}
		var last []uint32
		for index := range k.count(t) {
			q, e := Split(k.l, uint64(index))
			if e != api.OK || !slices.Equal(q, k.refLeaves(t, index)) {
				t.Errorf("%v: index %d has %v %d", k.l, index, q, e)
			}
			if slices.Compare(last, q) >= 0 { // greater ones come later, so that all differ
				t.Errorf("%v: index %d has %v, after %v", k.l, index, q, last)
			}
			last = q
		}
	}
}

// P9.5: an index follows from its leaves, where there are very many of them.
func TestSplitHigh(t *testing.T) {
	draw := rand.New(rand.NewSource(92))
	for _, heights := range [][]int{{25, 25, 10}, {10, 25, 25}, {20, 20, 20}, {15, 10, 5, 4, 3, 2, 1, 20}, {25}, {1}, {25, 25, 5, 5}} {
		var l []api.Level
		for _, h := range heights {
			l = append(l, level(3, h, 8))
		}
		n, e := Count(l)
		if e != api.OK {
			t.Fatal(l, e)
		}
		for range 100 {
			index := draw.Uint64() % n
			q, e := Split(l, index)
			if e != api.OK || len(q) != len(l) {
				t.Fatalf("%v, index %d: %v %d", l, index, q, e)
			}
			var again uint64
			for i, h := range heights {
				if q[i]>>h != 0 {
					t.Errorf("%v, index %d: %v", l, index, q)
				}
				again = again<<h | uint64(q[i])
			}
			if again != index {
				t.Errorf("%v: %d, not %d", l, again, index)
			}
		}
	}
}

// P9.1: the first and the last index exist, and the one behind it does not.
func TestSplitEnds(t *testing.T) {
	for _, heights := range [][]int{{1}, {25}, {2, 3}, {25, 25, 10}, {20, 20, 20}, {1, 1, 1, 1, 1, 1, 1, 1}} {
		var l []api.Level
		sum := 0
		for _, h := range heights {
			l = append(l, level(0, h, 2))
			sum += h
		}
		first, e := Split(l, 0)
		last, f := Split(l, 1<<sum-1)
		if e != api.OK || f != api.OK || len(first) != len(l) || len(last) != len(l) {
			t.Fatalf("%v: %v %d, %v %d", l, first, e, last, f)
		}
		for i, h := range heights {
			if first[i] != 0 || last[i] != 1<<h-1 {
				t.Errorf("%v: %v, %v", l, first, last)
			}
		}
		for _, index := range []uint64{1 << sum, 1<<sum + 1, 1 << 61, 1 << 63, math.MaxUint64} {
			if q, e := Split(l, index); e != api.ErrIndex || q != nil {
				t.Errorf("%v, index %d: %v %d", l, index, q, e)
			}
		}
	}
}

// P9.1: the length is that of all parts.
func TestLen(t *testing.T) {
	for f := range 4 {
		n := 32 - 8*(f%2)
		for _, c := range []struct {
			l    []api.Level
			want int
		}{
			{[]api.Level{level(f, 2, 8)}, 4 + 12 + n*(1+n+2+2)},
			{[]api.Level{level(f, 25, 8)}, 4 + 12 + n*(1+n+2+25)},
			{[]api.Level{level(f, 5, 8), level(f, 1, 8)}, 4 + 12 + n*(1+n+2+5) + 24 + n + 12 + n*(1+n+2+1)},
		} {
			if size := Len(c.l); size != c.want {
				t.Errorf("%v: %d, not %d", c.l, size, c.want)
			}
		}
	}
	for _, v := range []struct {
		l    []api.Level
		want int
	}{
		{[]api.Level{{Lms: 5, Ots: 4}, {Lms: 5, Ots: 4}}, 2644}, // as in RFC 8554, appendix F
		{[]api.Level{{Lms: 6, Ots: 3}, {Lms: 5, Ots: 4}}, 3860},
	} {
		if size := Len(v.l); size != v.want {
			t.Errorf("%v: %d, not %d", v.l, size, v.want)
		}
	}
	for _, k := range keys(t) {
		_, sig := blank(t, k.l, make([]uint32, len(k.l)))
		if size := Len(k.l); size != len(sig) {
			t.Errorf("%v: %d, not %d", k.l, size, len(sig))
		}
	}
}
