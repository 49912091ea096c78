package journal

import (
	"bytes"
	"encoding/binary"
	"math/rand"
	"testing"

	"livery/api"
	"livery/disk"
)

// picks returns each choice of n writes or, if there are too many, some drawn ones, with all and none.
func picks(draw *rand.Rand, n int) [][]bool {
	var l [][]bool
	for choice := range 1 << min(n, 6) {
		pick := make([]bool, n)
		for i := range pick {
			if n <= 6 {
				pick[i] = choice>>i&1 == 1
			} else {
				pick[i] = choice == 0 || choice > 1 && draw.Intn(2) == 0
			}
		}
		l = append(l, pick)
	}
	return l
}

// disguised returns bytes that have, wherever a further sector of the record with that number would begin with them, a first sector of the same generation or the next one.
func disguised(g uint32, number, n int) []byte {
	b := refRecord(g, number, nil)[0][:min(n, 239)]
	for k := 1; len(b) < n; k++ {
		s := refRecord(g+uint32(k%2), (number+k)%(number+3), []byte("disguised"))[0]
		b = append(b, s[:min(255, n-len(b))]...)
	}
	return b
}

// P18.4, P18.6: an Append or a Checkpoint, of plain and of disguised bytes, in each state; the power fails at each operation, and each choice of writes is kept.
func TestCrash(t *testing.T) {
	draw := rand.New(rand.NewSource(184))
	seen := map[bool]int{}
	for what, s := range states(t) {
		for _, n := range append(lengths(), 1700, 2300) { // with 6 and 9 further sectors
			for _, b := range [][]byte{some(draw, n), disguised(s.c.generation, len(s.c.records), n)} {
				for _, a := range attempts(s, b) {
					for fuse := range len(a.steps) {
						crashAt(t, draw, what, s, a, fuse, seen)
					}
				}
			}
		}
	}
	if seen[false] < 1000 || seen[true] < 1000 {
		t.Errorf("%d times as before, and %d times as after", seen[false], seen[true])
	}
}

// crashAt lets the power fail at the operation fuse of an attempt, and checks what is there after each Crash.
func crashAt(t *testing.T, draw *rand.Rand, what string, s state, a attempt, fuse int, seen map[bool]int) {
	t.Helper()
	d := s.d.Clone()
	j := mustOpen(t, d)
	must(t, d.Arm(fuse))
	if e := a.do(j); e != api.ErrPower {
		t.Fatalf("%s, %s, fuse of %d: error %d", what, a.what, fuse, e)
	}
	for _, pick := range picks(draw, d.Waits()) {
		c := d.Clone()
		c.Crash(pick)
		k, e := Open(c)
		if e != api.OK {
			t.Fatalf("%s, %s, fuse of %d, %v: error %d", what, a.what, fuse, pick, e)
		}
		after := contentsOf(k).equal(a.after)
		if !after && !contentsOf(k).equal(s.c) {
			t.Fatalf("%s, %s, fuse of %d, %v: neither as before nor as after", what, a.what, fuse, pick)
		}
		seen[after]++
		noFalseStart(t, what, c, contentsOf(k))
		goesOn(t, what+", "+a.what, c, k)
	}
}

// noFalseStart checks that what follows the records of c does not even begin like one, so that no checksum decides.
func noFalseStart(t *testing.T, what string, d *disk.Disk, c contents) {
	t.Helper()
	first, size := refArea(d.Sectors(), c.generation)
	if c.used() == size {
		return
	}
	s := d.Image()[(first+c.used())*256:]
	if s[0] == 'F' && binary.BigEndian.Uint32(s[1:]) == c.generation && binary.BigEndian.Uint32(s[5:]) == uint32(len(c.records)) {
		t.Fatalf("%s: a record that is not there begins at sector %d", what, first+c.used())
	}
}

// goesOn checks that a journal works with what a crash left.
func goesOn(t *testing.T, what string, d *disk.Disk, j *Journal) {
	t.Helper()
	c := contentsOf(j)
	tells(t, what+", opened", j, d.Sectors(), c, true)
	for _, b := range [][]byte{[]byte("on"), bytes.Repeat([]byte{70}, 260)} {
		if j.Room(len(b)) {
			must(t, j.Append(b))
			c = c.with(b)
		}
		tells(t, what+", going on", mustOpen(t, d), d.Sectors(), c, true)
	}
	must(t, j.Checkpoint([]byte("turn")))
	c = c.next([]byte("turn"))
	tells(t, what+", turned", mustOpen(t, d), d.Sectors(), c, true)
	must(t, j.Checkpoint(nil))
	c = c.next(nil)
	must(t, j.Append(nil))
	tells(t, what+", turned twice", mustOpen(t, d), d.Sectors(), c.with(nil), true)
}

// P18.4, P18.6: an Append that failed leaves further sectors behind, which shorter and longer records then follow or cover.
func TestLeftBehind(t *testing.T) {
	draw := rand.New(rand.NewSource(1841))
	for _, left := range []int{240, 495, 1000} {
		for _, n := range lengths() {
			for _, more := range lengths() {
				s := state{mustDisk(t, 40), contents{1, [][]byte{nil}}}
				must(t, perform(s.d, refFormat(40)))
				a := attempts(s, disguised(1, 1, left))[0]
				j := mustOpen(t, s.d)
				must(t, s.d.Arm(len(a.steps)-2)) // all further sectors are synced, and the first one is lost
				if e := a.do(j); e != api.ErrPower {
					t.Fatalf("error %d", e)
				}
				s.d.Crash(nil)
				for _, b := range [][]byte{some(draw, n), some(draw, more)} {
					must(t, mustOpen(t, s.d).Append(b))
					s.c = s.c.with(b)
					tells(t, "left behind", mustOpen(t, s.d), 40, s.c, true)
				}
			}
		}
	}
}

// drawnBytes returns bytes of some kind, among them what stands on the disk and what would be a first sector.
func drawnBytes(draw *rand.Rand, s state) []byte {
	n := draw.Intn(3) * draw.Intn(500)
	switch draw.Intn(5) {
	case 0:
		return bytes.Repeat([]byte{"FCH\x00"[draw.Intn(4)]}, n)
	case 1:
		return disguised(s.c.generation, len(s.c.records), n)
	case 2:
		image := s.d.Image()
		from := 256*draw.Intn(len(image)/256) + draw.Intn(3)
		return image[from:min(from+draw.Intn(700), len(image))]
	}
	return some(draw, n)
}

// P18.4, P18.5: drawn calls with crashes at drawn operations, one after the other on the same disk.
func TestRuns(t *testing.T) {
	total := 0
	for seed := range int64(150) {
		draw := rand.New(rand.NewSource(seed))
		sectors := 8 + draw.Intn(30)
		d := mustDisk(t, sectors)
		s, j := state{d, contents{1, [][]byte{nil}}}, mustFormat(t, d)
		crashes := 0
		for range 100 {
			if draw.Intn(3) == 0 {
				must(t, d.Arm(draw.Intn(8)))
			}
			b := drawnBytes(draw, s)
			e, after := drawnCall(draw, s, j, b)
			switch {
			case e == api.ErrPower:
				crashes++
				d.Crash(drawnPick(draw, d.Waits()))
				j = mustOpen(t, d)
				if c := contentsOf(j); c.equal(after) {
					s.c = after
				}
			case e == api.OK:
				s.c = after
			case e != api.ErrFull:
				t.Fatalf("error %d", e)
			}
			d.Calm()
			tells(t, "run", j, sectors, s.c, true)
			tells(t, "run, opened", mustOpen(t, d.Clone()), sectors, s.c, true)
			noFalseStart(t, "run", d, s.c)
			if c, e := refOpen(d.Image()); e != api.OK || !c.equal(s.c) {
				t.Fatalf("the chapter's Open: error %d", e)
			}
			if draw.Intn(10) == 0 {
				j = mustOpen(t, d)
			}
		}
		total += crashes
	}
	if total < 1000 {
		t.Errorf("only %d crashes", total)
	}
}

// drawnCall appends or checkpoints b, and returns what is there if that succeeds.
func drawnCall(draw *rand.Rand, s state, j *Journal, b []byte) (api.Errno, contents) {
	if draw.Intn(5) == 0 {
		return j.Checkpoint(b), s.c.next(b)
	}
	return j.Append(b), s.c.with(b)
}

func drawnPick(draw *rand.Rand, n int) []bool {
	pick := make([]bool, n)
	for i := range pick {
		pick[i] = draw.Intn(2) == 0
	}
	return pick
}

// P18.5: records of all lengths, appended one after the other, and then read by another journal, from a copy of the disk, too.
func TestRoundTrip(t *testing.T) {
	draw := rand.New(rand.NewSource(185))
	d := mustDisk(t, 2048)
	j := mustFormat(t, d)
	for range 4 {
		c := contentsOf(j)
		for j.Free() > 8 {
			b := some(draw, draw.Intn(1500))
			must(t, j.Append(b))
			c = c.with(b)
			if j.Len()%40 == 0 {
				j = mustOpen(t, d)
			}
		}
		tells(t, "round trip", j, 2048, c, true)
		tells(t, "round trip, opened", mustOpen(t, d), 2048, c, true)
		tells(t, "round trip, loaded", mustOpen(t, mustLoad(t, d.Image())), 2048, c, true)
		tells(t, "round trip, cloned", mustOpen(t, d.Clone()), 2048, c, true)
		must(t, j.Checkpoint(some(draw, 3000)))
	}
}

// P18.6: in no record does a further sector begin like a first sector, whatever the bytes are.
func TestDisguised(t *testing.T) {
	d := mustDisk(t, 100)
	j := mustFormat(t, d)
	for n := 240; j.Room(n); n += 255 {
		at := 2 + (100-2)/2 + (100-2)/2 - j.Free()
		must(t, j.Append(disguised(1, j.Len()+1, n)))
		image := d.Image()
		for i := range Sectors(n) {
			if got := image[(at+i)*256] == 'F'; got != (i == 0) {
				t.Errorf("sector %d of %d bytes begins with F: %v", i, n, got)
			}
		}
	}
	c := contentsOf(mustOpen(t, d))
	tells(t, "disguised", j, 100, c, true)
	if j.Len() < 8 {
		t.Errorf("only %d records", j.Len())
	}
}
