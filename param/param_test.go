package param

import (
	"iter"
	"math"
	"math/rand"
	"slices"
	"testing"

	"livery/api"
)

// families are those of the chapter.
var families = []struct {
	shake bool
	n     int
}{{false, 32}, {false, 24}, {true, 32}, {true, 24}}

// otsRow is what RFC 8554 and SP 800-208 say of digits of w bits.
type otsRow struct{ w, p, ls, size int }

// otsRows are those of hashes of n bytes.
func otsRows(n int) []otsRow {
	if n == 32 {
		return []otsRow{{1, 265, 7, 8516}, {2, 133, 6, 4292}, {4, 67, 4, 2180}, {8, 34, 0, 1124}}
	}
	return []otsRow{{1, 200, 8, 4828}, {2, 101, 6, 2452}, {4, 51, 4, 1252}, {8, 26, 0, 652}}
}

// allOts are the sets of LM-OTS, in the order of their codes.
func allOts() []api.Ots {
	var l []api.Ots
	for _, f := range families {
		for _, r := range otsRows(f.n) {
			l = append(l, api.Ots{Code: uint32(len(l) + 1), Shake: f.shake, N: f.n, W: r.w, P: r.p, LS: r.ls})
		}
	}
	return l
}

// allLms are the sets of LMS, in the order of their codes.
func allLms() []api.Lms {
	var l []api.Lms
	for i, f := range families {
		for j := range 5 {
			l = append(l, api.Lms{Code: uint32(5 + 5*i + j), Shake: f.shake, N: f.n, H: 5 + 5*j})
		}
	}
	for i, f := range families {
		for h := 1; h <= 4; h++ {
			l = append(l, api.Lms{Code: 0xF0000000 + uint32(16*i+h), Shake: f.shake, N: f.n, H: h})
		}
	}
	return l
}

// allXmss are the sets of XMSS, in the order of their codes.
func allXmss() []api.Xms {
	var l []api.Xms
	chains := []int{67, 51, 67, 51}
	for i, first := range []uint32{1, 13, 16, 19} {
		for j, h := range []int{10, 16, 20} {
			l = append(l, api.Xms{Code: first + uint32(j), Shake: families[i].shake, N: families[i].n, H: h, Len: chains[i]})
		}
	}
	for i, f := range families {
		for h := 1; h <= 4; h++ {
			l = append(l, api.Xms{Code: 0xF1000000 + uint32(16*i+h), Shake: f.shake, N: f.n, H: h, Len: chains[i]})
		}
	}
	return l
}

// P6.1: each code has its set.
func TestSets(t *testing.T) {
	for _, want := range allOts() {
		if o, e := Ots(want.Code); e != api.OK || o != want {
			t.Errorf("Ots(%d): %v %d, not %v", want.Code, o, e, want)
		}
	}
	for _, want := range allLms() {
		if l, e := Lms(want.Code); e != api.OK || l != want {
			t.Errorf("Lms(%d): %v %d, not %v", want.Code, l, e, want)
		}
	}
	for _, want := range allXmss() {
		if x, e := Xmss(want.Code); e != api.OK || x != want {
			t.Errorf("Xmss(%d): %v %d, not %v", want.Code, x, e, want)
		}
	}
}

// The chapter's examples.
func TestExamples(t *testing.T) {
	if o, e := Ots(4); e != api.OK || o != (api.Ots{Code: 4, N: 32, W: 8, P: 34, LS: 0}) {
		t.Error(o, e)
	}
	if l, e := Lms(api.LmsOwn + 18); e != api.OK || l != (api.Lms{Code: 0xF0000012, N: 24, H: 2}) {
		t.Error(l, e)
	}
}

// tried are codes near those of sets, codes that differ from one in a bit, and others.
func tried() []uint32 {
	var l []uint32
	for _, base := range []uint32{0, 0xEFFFFF00, 0xF0000000, 0xF0FFFF00, 0xF1000000, math.MaxUint32 - 5000} {
		for i := range uint32(5000) {
			l = append(l, base+i)
		}
	}
	for _, codes := range []iter.Seq[uint32]{OtsCodes(), LmsCodes(), XmssCodes()} {
		for code := range codes {
			l = append(l, -code)
			for bit := range 32 {
				l = append(l, code^1<<bit)
			}
		}
	}
	draw := rand.New(rand.NewSource(1))
	for range 100000 {
		l = append(l, draw.Uint32())
	}
	return append(l, math.MaxUint32)
}

// P6.1, P6.3: every other code has no set, and no name.
func TestNoSets(t *testing.T) {
	ots, lms, xmss := map[uint32]bool{}, map[uint32]bool{}, map[uint32]bool{}
	for _, o := range allOts() {
		ots[o.Code] = true
	}
	for _, l := range allLms() {
		lms[l.Code] = true
	}
	for _, x := range allXmss() {
		xmss[x.Code] = true
	}
	for _, code := range tried() {
		if o, e := Ots(code); !ots[code] && (e != api.ErrCode || o != api.Ots{}) || Name(1, code) != "" != ots[code] {
			t.Errorf("Ots(%#x): %v %d %q", code, o, e, Name(1, code))
		}
		if l, e := Lms(code); !lms[code] && (e != api.ErrCode || l != api.Lms{}) || Name(2, code) != "" != lms[code] {
			t.Errorf("Lms(%#x): %v %d %q", code, l, e, Name(2, code))
		}
		if x, e := Xmss(code); !xmss[code] && (e != api.ErrCode || x != api.Xms{}) || Name(3, code) != "" != xmss[code] {
			t.Errorf("Xmss(%#x): %v %d %q", code, x, e, Name(3, code))
		}
	}
}

// P6.1: all codes in ascending order, as often as they are asked for.
func TestCodes(t *testing.T) {
	var ots, lms, xmss []uint32
	for _, o := range allOts() {
		ots = append(ots, o.Code)
	}
	for _, l := range allLms() {
		lms = append(lms, l.Code)
	}
	for _, x := range allXmss() {
		xmss = append(xmss, x.Code)
	}
	if len(ots) != 16 || len(lms) != 36 || len(xmss) != 28 || !slices.IsSorted(lms) || !slices.IsSorted(xmss) {
		t.Fatal("the tables are wrong")
	}
	for _, c := range []struct {
		codes iter.Seq[uint32]
		want  []uint32
	}{{OtsCodes(), ots}, {LmsCodes(), lms}, {XmssCodes(), xmss}} {
		for range 2 {
			if l := slices.Collect(c.codes); !slices.Equal(l, c.want) {
				t.Errorf("%x, not %x", l, c.want)
			}
		}
	}
}

// P6.1: an iteration ends where it is stopped.
func TestCodesStop(t *testing.T) {
	for _, codes := range []iter.Seq[uint32]{OtsCodes(), LmsCodes(), XmssCodes()} {
		all := slices.Collect(codes)
		for n := 1; n <= len(all); n++ {
			var got []uint32
			codes(func(code uint32) bool {
				got = append(got, code)
				return len(got) < n
			})
			if !slices.Equal(got, all[:n]) {
				t.Errorf("%x, not %x", got, all[:n])
			}
		}
	}
}

// P6.2: the lengths of LM-OTS, from the standards' tables.
func TestOtsLen(t *testing.T) {
	for i, o := range allOts() {
		if n := OtsLen(o); n != otsRows(o.N)[i%4].size {
			t.Errorf("OtsLen of %v: %d", o, n)
		}
	}
}

// P6.2: a tree and its leaves have the same hash.
func TestFit(t *testing.T) {
	for _, l := range allLms() {
		for i, o := range allOts() {
			fit, size := false, 0
			if l.Shake == o.Shake && l.N == o.N {
				fit, size = true, 8+otsRows(o.N)[i%4].size+l.H*l.N
			}
			if Fit(l, o) != fit || LmsLen(l, o) != size {
				t.Errorf("%v and %v: Fit is %t, LmsLen %d", l, o, Fit(l, o), LmsLen(l, o))
			}
		}
	}
	l, _ := Lms(5)
	for code, want := range map[uint32]int{1: 8684, 2: 4460, 3: 2348, 4: 1292} { // of SP 800-208
		if o, _ := Ots(code); LmsLen(l, o) != want {
			t.Errorf("LmsLen of 5 and %d: %d", code, LmsLen(l, o))
		}
	}
}

// P6.2: the lengths of XMSS, from SP 800-208, and those of public keys.
func TestXmssLen(t *testing.T) {
	for code, want := range map[uint32]int{
		1: 2500, 2: 2692, 3: 2820, 13: 1492, 14: 1636, 15: 1732, 16: 2500, 17: 2692, 18: 2820, 19: 1492, 20: 1636, 21: 1732,
		0xF1000001: 2212, 0xF1000014: 1348, 0xF1000022: 2244, 0xF1000033: 1324,
	} {
		x, e := Xmss(code)
		if n := XmssLen(x); e != api.OK || n != want {
			t.Errorf("XmssLen of %#x: %d, not %d", code, n, want)
		}
	}
	for _, x := range allXmss() {
		if want := map[int]int{32: 68, 24: 52}[x.N]; XmssPub(x) != want {
			t.Errorf("XmssPub of %v: %d", x, XmssPub(x))
		}
	}
	for _, l := range allLms() {
		if want := map[int]int{32: 56, 24: 48}[l.N]; LmsPub(l) != want {
			t.Errorf("LmsPub of %v: %d", l, LmsPub(l))
		}
	}
}

// P6.2: what differs from the set with its code is no set of LM-OTS.
func TestChangedOts(t *testing.T) {
	l := allLms()
	var changed []api.Ots
	for _, o := range allOts() {
		not := o
		not.Shake = !o.Shake
		changed = append(changed, not)
		for _, d := range []int{-1, 1, 8, -o.N, math.MaxInt, math.MinInt} {
			n, w, p, ls := o, o, o, o
			n.N, w.W, p.P, ls.LS = o.N+d, o.W+d, o.P+d, o.LS+d
			changed = append(changed, n, w, p, ls)
		}
		for _, code := range []uint32{0, o.Code%16 + 1, o.Code ^ 1<<31, 17, 5 + o.Code, math.MaxUint32} {
			other := o
			other.Code = code
			changed = append(changed, other)
		}
	}
	for _, o := range append(changed, api.Ots{}, api.Ots{Code: 1}) {
		if n := OtsLen(o); n != 0 {
			t.Errorf("OtsLen of %v: %d", o, n)
		}
		for _, l := range append(l, api.Lms{}) {
			if Fit(l, o) || LmsLen(l, o) != 0 {
				t.Errorf("%v and %v: Fit is %t, LmsLen %d", l, o, Fit(l, o), LmsLen(l, o))
			}
		}
	}
}

// P6.2: what differs from the set with its code is no set of LMS.
func TestChangedLms(t *testing.T) {
	var changed []api.Lms
	for _, l := range allLms() {
		not := l
		not.Shake = !l.Shake
		changed = append(changed, not)
		for _, d := range []int{-1, 1, 5, -l.N, -l.H, math.MaxInt, math.MinInt} {
			n, h := l, l
			n.N, h.H = l.N+d, l.H+d
			changed = append(changed, n, h)
		}
		for _, code := range []uint32{0, 4, 25, l.Code + 1, l.Code - 1, l.Code + 16, l.Code + 1<<24, math.MaxUint32} {
			other := l
			other.Code = code
			changed = append(changed, other)
		}
	}
	for _, l := range append(changed, api.Lms{}, api.Lms{Code: 5}) {
		if n := LmsPub(l); n != 0 {
			t.Errorf("LmsPub of %v: %d", l, n)
		}
		for _, o := range append(allOts(), api.Ots{}) {
			if Fit(l, o) || LmsLen(l, o) != 0 {
				t.Errorf("%v and %v: Fit is %t, LmsLen %d", l, o, Fit(l, o), LmsLen(l, o))
			}
		}
	}
}

// P6.2: what differs from the set with its code is no set of XMSS.
func TestChangedXmss(t *testing.T) {
	var changed []api.Xms
	for _, x := range allXmss() {
		not := x
		not.Shake = !x.Shake
		changed = append(changed, not)
		for _, d := range []int{-1, 1, 4, -x.N, -x.H, math.MaxInt, math.MinInt} {
			n, h, chains := x, x, x
			n.N, h.H, chains.Len = x.N+d, x.H+d, x.Len+d
			changed = append(changed, n, h, chains)
		}
		for _, code := range []uint32{0, 4, 12, 22, x.Code + 1, x.Code - 1, x.Code + 16, x.Code - 1<<24, math.MaxUint32} {
			other := x
			other.Code = code
			changed = append(changed, other)
		}
	}
	for _, x := range append(changed, api.Xms{}, api.Xms{Code: 1}) {
		if m, n := XmssLen(x), XmssPub(x); m != 0 || n != 0 {
			t.Errorf("XmssLen and XmssPub of %v: %d %d", x, m, n)
		}
	}
}

// P6.4: the digits of a hash and of its checksum, which is in 16 bits when it is shifted.
func TestDigits(t *testing.T) {
	draw := rand.New(rand.NewSource(2))
	for code := range OtsCodes() {
		o, _ := Ots(code)
		u := 8 * o.N / o.W
		v := o.P - u
		most := (1<<o.W - 1) * u
		if v < 1 || most>>(v*o.W) != 0 || most>>((v-1)*o.W) == 0 || o.LS != 16-v*o.W || o.LS < 0 || most<<o.LS >= 1<<16 {
			t.Errorf("%v: %d digits, and %d of the checksum, which is %d at most", o, u, v, most)
		}
		for _, sum := range []int{0, 1, most - 1, most, draw.Intn(most)} {
			moved := uint16(sum << o.LS)
			back := 0
			for i := range v {
				back = back<<o.W | int(moved)>>(16-(i+1)*o.W)&(1<<o.W-1)
			}
			if back != sum {
				t.Errorf("%v: the first %d digits of the checksum %d are those of %d", o, v, sum, back)
			}
		}
	}
}

// P6.4, by another way than a set's own numbers: XMSS has as many chains as LM-OTS with digits of 4 bits has digits.
func TestChains(t *testing.T) {
	for code := range XmssCodes() {
		x, _ := Xmss(code)
		for code := range OtsCodes() {
			if o, _ := Ots(code); o.W == 4 && o.N == x.N && o.P != x.Len {
				t.Errorf("%v and %v", x, o)
			}
		}
	}
}
