package dring

import (
	"bytes"
	"math"
	"math/rand"
	"slices"
	"testing"

	"livery/api"
)

// marked returns a hint with marks at these positions.
func marked(positions ...int) api.Hint {
	var h api.Hint
	for _, i := range positions {
		h[i] = true
	}
	return h
}

// full returns a hint with all marks.
func full() api.Hint {
	var h api.Hint
	for i := range h {
		h[i] = true
	}
	return h
}

// drawnHints returns n hints with at most that many marks in all.
func drawnHints(draw *rand.Rand, n, marks int) []api.Hint {
	l := make([]api.Hint, n)
	if n == 0 {
		return l
	}
	for range marks {
		l[draw.Intn(n)][draw.Intn(256)] = true
	}
	return l
}

// P15.6: positions hint by hint, zero bytes, and the marks up to each hint.
func TestPackHintsKnown(t *testing.T) {
	for _, c := range []struct {
		l    []api.Hint
		most int
		want []byte
	}{
		{nil, 0, nil},
		{nil, 3, []byte{0, 0, 0}},
		{[]api.Hint{{}}, 0, []byte{0}},
		{[]api.Hint{marked(0)}, 1, []byte{0, 1}},
		{[]api.Hint{marked(255, 0, 7)}, 5, []byte{0, 7, 255, 0, 0, 3}},
		{[]api.Hint{marked(3, 200), {}}, 3, []byte{3, 200, 0, 2, 2}},
		{[]api.Hint{{}, marked(9), {}, marked(8, 9)}, 4, []byte{9, 8, 9, 0, 0, 1, 1, 3}},
		{make([]api.Hint, 16), 2, make([]byte, 18)},
	} {
		kept := slices.Clone(c.l)
		b, e := PackHints(c.l, c.most)
		if e != api.OK || !bytes.Equal(b, c.want) || !slices.Equal(c.l, kept) {
			t.Errorf("%v with at most %d: %v %d", c.l, c.most, b, e)
		}
		back, e := UnpackHints(len(c.l), c.most, c.want)
		if e != api.OK || !slices.Equal(back, c.l) {
			t.Errorf("%v: %v %d", c.want, back, e)
		}
	}
}

// P15.6, P15.8: any hints, which are unpacked to the same.
func TestHints(t *testing.T) {
	draw := rand.New(rand.NewSource(20))
	for n := range 17 {
		for _, most := range []int{0, 1, 2, 54, 55, 75, 80, 254, 255} {
			for range 20 {
				l := drawnHints(draw, n, draw.Intn(most+10))
				b, e := PackHints(l, most)
				want := refPackHints(l, most)
				if want == nil && n > 0 {
					if e != api.ErrLong || b != nil {
						t.Fatalf("%v with at most %d: %v %d", l, most, b, e)
					}
					continue
				}
				if e != api.OK || len(b) != most+n || !bytes.Equal(b, want) {
					t.Fatalf("%v with at most %d: %v %d", l, most, b, e)
				}
				kept := bytes.Clone(b)
				back, e := UnpackHints(n, most, b)
				if e != api.OK || !slices.Equal(back, l) || !bytes.Equal(b, kept) {
					t.Fatalf("%v: %v %d", b, back, e)
				}
			}
		}
	}
}

// P15.6: as many marks as are allowed, and one more.
func TestPackHintsLong(t *testing.T) {
	draw := rand.New(rand.NewSource(21))
	for _, most := range []int{0, 1, 2, 55, 254, 255} {
		l := make([]api.Hint, 16)
		for _, at := range draw.Perm(16 * 256)[:most] {
			l[at/256][at%256] = true
		}
		if b, e := PackHints(l, most); e != api.OK || !bytes.Equal(b, refPackHints(l, most)) {
			t.Errorf("%d marks: %v %d", most, b, e)
		}
		for i := range l {
			more := slices.Clone(l)
			more[i][slices.Index(l[i][:], false)] = true
			if b, e := PackHints(more, most); e != api.ErrLong || b != nil {
				t.Errorf("%d marks, and one in hint %d: %v %d", most, i, b, e)
			}
		}
	}
	whole := full()
	for _, l := range [][]api.Hint{{whole}, {{}, whole}, slices.Repeat([]api.Hint{whole}, 16)} {
		if b, e := PackHints(l, 255); e != api.ErrLong || b != nil {
			t.Errorf("all marks in %d hints: %v %d", len(l), b, e)
		}
	}
	whole[77] = false
	if b, e := PackHints([]api.Hint{whole}, 255); e != api.OK || b[76] != 76 || b[77] != 78 || b[254] != 255 || b[255] != 255 {
		t.Errorf("all marks but one: %v %d", b, e)
	}
}

// P15.6, R1, R2: more than 16 hints, and limits that are none, ahead of too many marks.
func TestPackHintsErrors(t *testing.T) {
	for _, n := range []int{17, 18, 32, 256, 300} {
		for _, l := range [][]api.Hint{make([]api.Hint, n), slices.Repeat([]api.Hint{full()}, n)} {
			if b, e := PackHints(l, 55); e != api.ErrArg || b != nil {
				t.Errorf("%d hints: %v %d", n, b, e)
			}
		}
	}
	for _, most := range []int{-1, -55, 256, 257, 1 << 32, math.MinInt, math.MaxInt, math.MaxInt - 15} {
		for _, l := range [][]api.Hint{nil, {{}}, {full()}, make([]api.Hint, 16)} {
			if b, e := PackHints(l, most); e != api.ErrArg || b != nil {
				t.Errorf("at most %d: %v %d", most, b, e)
			}
		}
	}
}

// P15.6, R1, R2, R6: numbers and lengths that are none, ahead of malformed bytes.
func TestUnpackHintsErrors(t *testing.T) {
	for _, c := range [][3]int{
		{-1, 3, 2}, {-1, 1, 0}, {17, 3, 20}, {17, 0, 17}, {math.MinInt, 3, 3}, {math.MaxInt, 3, 3}, {math.MaxInt, 1, 0}, {1 << 32, 0, 0},
		{2, -1, 1}, {1, -1, 0}, {2, 256, 258}, {2, math.MinInt, 2}, {2, math.MaxInt, 2}, {16, 1 << 32, 16}, {2, math.MaxInt - 1, 0},
		{2, 3, 0}, {2, 3, 4}, {2, 3, 6}, {0, 0, 1}, {0, 3, 0}, {16, 255, 270}, {16, 255, 272}, {6, 55, 1 << 16},
	} {
		for _, fill := range []byte{0, 255} {
			l, e := UnpackHints(c[0], c[1], bytes.Repeat([]byte{fill}, c[2]))
			if e != api.ErrArg || l != nil {
				t.Errorf("%d with at most %d, of %d bytes: %v %d", c[0], c[1], c[2], l, e)
			}
		}
	}
	if l, e := UnpackHints(2, 3, nil); e != api.ErrArg || l != nil {
		t.Errorf("nothing: %v %d", l, e)
	}
}

// P15.6: each way in which bytes are malformed.
func TestUnpackHintsMalformed(t *testing.T) {
	for _, c := range []struct {
		n, most int
		b       []byte
	}{
		{2, 3, []byte{200, 3, 0, 2, 2}}, // positions that descend
		{2, 3, []byte{3, 3, 0, 2, 2}},   // the same position twice
		{2, 3, []byte{3, 200, 1, 2, 2}}, // a byte behind the positions that is not zero
		{2, 3, []byte{3, 200, 0, 2, 1}}, // counts that descend
		{2, 3, []byte{3, 200, 0, 1, 0}}, // likewise, to 0
		{2, 3, []byte{1, 2, 3, 4, 4}},   // more marks than there may be
		{2, 3, []byte{1, 2, 3, 3, 4}},   // likewise, in the last hint only
		{2, 3, []byte{1, 2, 3, 255, 0}}, // likewise, but not at last
		{2, 3, []byte{0, 0, 0, 0, 255}}, // likewise, much more
		{2, 3, []byte{0, 0, 0, 2, 2}},   // zero bytes that are counted
		{2, 3, []byte{5, 0, 0, 0, 0}},   // a position that is not
		{2, 3, []byte{5, 4, 9, 0, 2}},   // the second hint's positions descend, and there is one more
		{0, 1, []byte{1}},               // no hints, but a mark
		{1, 0, []byte{1}},               // a mark where there may be none
		{16, 0, append(make([]byte, 15), 1)},
	} {
		if l, e := UnpackHints(c.n, c.most, c.b); e != api.ErrHint || l != nil {
			t.Errorf("%v: %v %d", c.b, l, e)
		}
	}
}

// small are all pairs of hints with marks at four positions only.
func small(yield func(l []api.Hint) bool) {
	for marks := range 256 {
		l := make([]api.Hint, 2)
		for i, at := range []int{0, 1, 2, 255, 0, 1, 2, 255} {
			l[i/4][at] = marks>>i&1 == 1
		}
		if !yield(l) {
			return
		}
	}
}

// P15.6: of all bytes that are made of few values those are accepted that PackHints returns for some hints.
func TestUnpackHintsOfEach(t *testing.T) {
	for most := range 4 {
		known := map[string][]api.Hint{}
		for l := range small {
			if b := refPackHints(l, most); b != nil {
				known[string(b)] = l
			}
		}
		accepted := 0
		values, counts := []byte{0, 1, 2, 255}, []byte{0, 1, 2, 3, 4, 255}
		for code := range 64 * 36 {
			b := []byte{values[code%4], values[code/4%4], values[code/16%4]}[:most]
			b = append(b, counts[code/64%6], counts[code/384])
			l, e := UnpackHints(2, most, b)
			if want, ok := known[string(b)]; ok != (e == api.OK) || !ok && e != api.ErrHint || !slices.Equal(l, want) {
				t.Fatalf("%v: %v %d", b, l, e)
			}
			if e == api.OK {
				accepted++
			}
		}
		if accepted == 0 {
			t.Error("nothing")
		}
	}
}

// P15.6: a byte that is changed makes other hints, or none.
func TestUnpackHintsChanged(t *testing.T) {
	draw := rand.New(rand.NewSource(22))
	for range 3000 {
		n, most := 1+draw.Intn(16), draw.Intn(80)
		l := drawnHints(draw, n, draw.Intn(most+1))
		b, e := PackHints(l, most)
		b = mustBytes(t, b, e)
		b[draw.Intn(len(b))] ^= byte(1 + draw.Intn(255))
		other, e := UnpackHints(n, most, b)
		if e != api.OK {
			if e != api.ErrHint || other != nil {
				t.Fatalf("%v: %v %d", b, other, e)
			}
			continue
		}
		if slices.Equal(other, l) || !bytes.Equal(refPackHints(other, most), b) {
			t.Fatalf("%v: %v", b, other)
		}
	}
}

// R3: results are new memory.
func TestHintsMemory(t *testing.T) {
	l := []api.Hint{marked(3, 200), marked(9)}
	b, e := PackHints(l, 5)
	kept := bytes.Clone(mustBytes(t, b, e))
	back, e := UnpackHints(2, 5, b)
	if e != api.OK {
		t.Fatal(e)
	}
	clear(b[:cap(b)])
	if !slices.Equal(back, l) {
		t.Error("UnpackHints keeps its argument")
	}
	clear(back)
	again, e := PackHints(l, 5)
	if !bytes.Equal(mustBytes(t, again, e), kept) {
		t.Error("PackHints keeps its result")
	}
}
