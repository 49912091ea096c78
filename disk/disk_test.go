package disk

import (
	"bytes"
	"math"
	"math/rand"
	"slices"
	"testing"

	"livery/api"
)

// must checks that there is no error.
func must(t *testing.T, e api.Errno) {
	t.Helper()
	if e != api.OK {
		t.Fatalf("error %d", e)
	}
}

func mustNew(t *testing.T, sectors int) *Disk {
	t.Helper()
	d, e := New(sectors)
	if e != api.OK || d == nil {
		t.Fatalf("New of %d sectors: error %d", sectors, e)
	}
	return d
}

func mustLoad(t *testing.T, b []byte) *Disk {
	t.Helper()
	d, e := Load(b)
	if e != api.OK || d == nil {
		t.Fatalf("Load of %d bytes: error %d", len(b), e)
	}
	return d
}

// mustRead returns the bytes of sector i.
func mustRead(t *testing.T, d *Disk, i int) []byte {
	t.Helper()
	b, e := d.Read(i)
	if e != api.OK || len(b) != api.Sector {
		t.Fatalf("Read of sector %d: %d bytes, error %d", i, len(b), e)
	}
	return b
}

// full returns the bytes of a sector that are all x.
func full(x byte) []byte { return bytes.Repeat([]byte{x}, api.Sector) }

// place returns the durable bytes of sector i.
func place(d *Disk, i int) []byte { return d.Image()[i*api.Sector : (i+1)*api.Sector] }

// fuseLimit is up to which number fuses are told apart from none.
const fuseLimit = 100

// fuseOf returns how many operations would succeed; -1 stands for at least fuseLimit, as without a fuse.
func fuseOf(t *testing.T, d *Disk) int {
	t.Helper()
	c := d.Clone()
	for n := range fuseLimit {
		if e := c.Sync(); e == api.ErrPower {
			return n
		} else if e != api.OK {
			t.Fatalf("Sync: error %d", e)
		}
	}
	return -1
}

// sameState checks that a and b are in the same state.
func sameState(t *testing.T, what string, a, b *Disk) {
	t.Helper()
	if a.On() != b.On() || a.Waits() != b.Waits() || a.Ops() != b.Ops() || !bytes.Equal(a.Image(), b.Image()) {
		t.Fatalf("%s: on %v, %d waiting, %d operations, and not %v, %d, %d", what, a.On(), a.Waits(), a.Ops(), b.On(), b.Waits(), b.Ops())
	}
	if x, y := fuseOf(t, a), fuseOf(t, b); x != y {
		t.Fatalf("%s: a fuse of %d, and not %d", what, x, y)
	}
	for i := range a.Waits() { // each write alone tells its sector and its bytes
		pick := make([]bool, i+1)
		pick[i] = true
		x, y := a.Clone(), b.Clone()
		x.Crash(pick)
		y.Crash(pick)
		if !bytes.Equal(x.Image(), y.Image()) {
			t.Fatalf("%s: another pending write %d", what, i)
		}
	}
}

// states returns a disk in each kind of state: fresh, with pending writes, armed, and without power.
func states(t *testing.T) map[string]*Disk {
	t.Helper()
	fresh := mustNew(t, 8)
	waiting := fresh.Clone()
	must(t, waiting.Write(3, full(1)))
	must(t, waiting.Sync())
	must(t, waiting.Write(3, full(2)))
	must(t, waiting.Write(4, full(3)))
	must(t, waiting.Write(3, full(4)))
	armed := waiting.Clone()
	must(t, armed.Arm(5))
	off := waiting.Clone()
	must(t, off.Arm(0))
	if e := off.Sync(); e != api.ErrPower || off.On() {
		t.Fatalf("error %d, and the power is on", e)
	}
	return map[string]*Disk{"fresh": fresh, "waiting": waiting, "armed": armed, "off": off}
}

// The chapter's examples.
func TestExamples(t *testing.T) {
	d := mustNew(t, 8)
	must(t, d.Write(0, full(1)))
	must(t, d.Write(0, full(2)))
	d.Crash([]bool{false, true})
	if b := mustRead(t, d, 0); !bytes.Equal(b, full(2)) {
		t.Errorf("sector 0 is %x", b)
	}
	must(t, d.Arm(0))
	if e := d.Sync(); e != api.ErrPower {
		t.Errorf("Sync: error %d", e)
	}
}

// P17.1: each number of sectors that there may be.
func TestNew(t *testing.T) {
	for n := api.MinSectors; n <= api.MaxSectors; n += 1 + n/3 {
		checkFresh(t, mustNew(t, n), make([]byte, n*api.Sector))
	}
	checkFresh(t, mustNew(t, 2048), make([]byte, 2048*256))
}

// checkFresh checks that nothing has happened to a disk with these durable bytes yet.
func checkFresh(t *testing.T, d *Disk, image []byte) {
	t.Helper()
	n := len(image) / 256
	if d.Sectors() != n || !d.On() || d.Waits() != 0 || d.Ops() != 0 {
		t.Errorf("%d sectors: %d, on %v, %d waiting, %d operations", n, d.Sectors(), d.On(), d.Waits(), d.Ops())
	}
	if !bytes.Equal(d.Image(), image) {
		t.Errorf("%d sectors: another image", n)
	}
	for i := range n {
		if b := mustRead(t, d, i); !bytes.Equal(b, image[i*256:(i+1)*256]) {
			t.Errorf("%d sectors: sector %d is %x", n, i, b)
		}
	}
	if f := fuseOf(t, d); f != -1 {
		t.Errorf("%d sectors: a fuse of %d", n, f)
	}
}

// P17.1: numbers of sectors that there may not be.
func TestNewArg(t *testing.T) {
	for _, n := range []int{math.MinInt, -8, -1, 0, 1, 7, 2049, 4096, 1 << 32, 1<<56 + 8, math.MaxInt} {
		if d, e := New(n); e != api.ErrArg || d != nil {
			t.Errorf("%d sectors: error %d", n, e)
		}
	}
}

// P17.1: Load of whole sectors.
func TestLoad(t *testing.T) {
	draw := rand.New(rand.NewSource(171))
	for _, n := range []int{8, 9, 100, 2047, 2048} {
		image := some(draw, n*256)
		checkFresh(t, mustLoad(t, image), image)
	}
}

// P17.1: bytes that are no sectors, or too few or too many.
func TestLoadArg(t *testing.T) {
	for _, n := range []int{0, 1, 8, 255, 256, 257, 7 * 256, 8*256 - 1, 8*256 + 1, 8*256 + 128, 9*256 - 1, 2048*256 - 1, 2048*256 + 1, 2049 * 256, 4096 * 256} {
		if d, e := Load(make([]byte, n)); e != api.ErrArg || d != nil {
			t.Errorf("%d bytes: error %d", n, e)
		}
	}
	if d, e := Load(nil); e != api.ErrArg || d != nil {
		t.Errorf("no bytes: error %d", e)
	}
}

// P17.1: Image has the durable bytes, whatever waits, also without power; what is loaded from it has nothing else.
func TestImage(t *testing.T) {
	for what, d := range states(t) {
		want := make([]byte, 8*256)
		if what != "fresh" {
			copy(want[3*256:], full(1))
		}
		if !bytes.Equal(d.Image(), want) {
			t.Errorf("%s: another image", what)
		}
		checkFresh(t, mustLoad(t, d.Image()), want)
	}
}

// P17.2: the bytes of the last pending write, of the same sector only.
func TestRead(t *testing.T) {
	d := states(t)["waiting"]
	for i, x := range []byte{0, 0, 0, 4, 3, 0, 0, 0} {
		if b := mustRead(t, d, i); !bytes.Equal(b, full(x)) {
			t.Errorf("sector %d is %x", i, b)
		}
	}
	d.Crash([]bool{true})
	for i, x := range []byte{0, 0, 0, 2, 0, 0, 0, 0} {
		if b := mustRead(t, d, i); !bytes.Equal(b, full(x)) {
			t.Errorf("after a crash, sector %d is %x", i, b)
		}
	}
}

// P17.2: no such sector is told ahead of the power.
func TestReadErrors(t *testing.T) {
	for what, d := range states(t) {
		before := d.Clone()
		for _, i := range []int{math.MinInt, -256, -1, 8, 9, 256, 1 << 56, math.MaxInt} {
			if b, e := d.Read(i); e != api.ErrArg || b != nil {
				t.Errorf("%s, sector %d: %x, error %d", what, i, b, e)
			}
		}
		for i := range 8 {
			want := api.OK
			if what == "off" {
				want = api.ErrPower
			}
			if b, e := d.Read(i); e != want || (b == nil) != (e != api.OK) {
				t.Errorf("%s, sector %d: %x, error %d", what, i, b, e)
			}
		}
		sameState(t, what, d, before)
	}
}

// P17.2: a write waits until it is synced.
func TestWrite(t *testing.T) {
	d := mustNew(t, 8)
	for i := range 8 {
		must(t, d.Write(i, full(byte(i+1))))
		if d.Waits() != i+1 || d.Ops() != i+1 {
			t.Errorf("%d waiting, %d operations after %d", d.Waits(), d.Ops(), i+1)
		}
	}
	if !bytes.Equal(d.Image(), make([]byte, 8*256)) {
		t.Error("pending writes are durable")
	}
	must(t, d.Write(7, full(9)))
	must(t, d.Sync())
	if d.Waits() != 0 || d.Ops() != 10 {
		t.Errorf("%d waiting, %d operations", d.Waits(), d.Ops())
	}
	for i, x := range []byte{1, 2, 3, 4, 5, 6, 7, 9} {
		if !bytes.Equal(place(d, i), full(x)) {
			t.Errorf("sector %d is %x", i, place(d, i))
		}
	}
	must(t, d.Sync())
	if d.Ops() != 11 {
		t.Errorf("%d operations after a Sync of nothing", d.Ops())
	}
}

// P17.2: wrong sectors and lengths are told ahead of the power, and cost no fuse; nothing changes.
func TestWriteErrors(t *testing.T) {
	for what, d := range states(t) {
		before := d.Clone()
		for _, i := range []int{math.MinInt, -1, 8, 1 << 56, math.MaxInt} {
			for _, n := range []int{0, 255, 256} {
				if e := d.Write(i, make([]byte, n)); e != api.ErrArg {
					t.Errorf("%s, sector %d, %d bytes: error %d", what, i, n, e)
				}
			}
		}
		for _, n := range []int{0, 1, 255, 257, 512} {
			if e := d.Write(0, make([]byte, n)); e != api.ErrArg {
				t.Errorf("%s, %d bytes: error %d", what, n, e)
			}
		}
		if e := d.Write(0, nil); e != api.ErrArg {
			t.Errorf("%s, nothing: error %d", what, e)
		}
		sameState(t, what, d, before)
	}
}

// P17.2, P17.3: without power there are no operations, and nothing changes.
func TestOff(t *testing.T) {
	d := states(t)["off"]
	before := d.Clone()
	if e := d.Write(0, full(1)); e != api.ErrPower {
		t.Errorf("Write: error %d", e)
	}
	if e := d.Sync(); e != api.ErrPower {
		t.Errorf("Sync: error %d", e)
	}
	for _, n := range []int{0, 1, math.MaxInt} {
		if e := d.Arm(n); e != api.ErrPower {
			t.Errorf("Arm of %d: error %d", n, e)
		}
	}
	if e := d.Arm(-1); e != api.ErrArg {
		t.Errorf("Arm of -1: error %d", e)
	}
	d.Calm()
	sameState(t, "off", d, before)
	if d.On() || d.Waits() != 3 || d.Ops() != 5 {
		t.Errorf("on %v, %d waiting, %d operations", d.On(), d.Waits(), d.Ops())
	}
}

// P17.2: with a fuse of n, n operations succeed; a write at which the power fails waits, and a Sync at which it fails makes nothing durable.
func TestFuse(t *testing.T) {
	for n := range 12 {
		for _, last := range []string{"write", "sync"} {
			d := mustNew(t, 8)
			must(t, d.Write(0, full(99)))
			must(t, d.Arm(n))
			waits := 1
			for k := range n {
				mustRead(t, d, 0)
				if k%3 == 2 {
					must(t, d.Sync())
					waits = 0
				} else {
					must(t, d.Write(k%8, full(byte(k+1))))
					waits++
				}
			}
			image := d.Image()
			var e api.Errno
			if last == "write" {
				e = d.Write(7, full(77))
				waits++
			} else {
				e = d.Sync()
			}
			if e != api.ErrPower || d.On() || d.Waits() != waits || d.Ops() != n+1 || !bytes.Equal(d.Image(), image) {
				t.Fatalf("fuse of %d, %s: error %d, on %v, %d of %d waiting, %d operations", n, last, e, d.On(), d.Waits(), waits, d.Ops())
			}
			d.Crash(slices.Repeat([]bool{true}, waits))
			if last == "write" && !bytes.Equal(mustRead(t, d, 7), full(77)) {
				t.Fatalf("fuse of %d: the last write did not wait", n)
			}
			if f := fuseOf(t, d); f != -1 {
				t.Fatalf("fuse of %d, %s: it is still there, at %d", n, last, f)
			}
		}
	}
}

// P17.3: Arm sets the fuse, whatever it was; a negative one changes nothing.
func TestArm(t *testing.T) {
	d := mustNew(t, 8)
	for _, n := range []int{0, 1, 7, 2, 99, 0, 3} {
		must(t, d.Arm(n))
		if f := fuseOf(t, d); f != n {
			t.Errorf("a fuse of %d, and not %d", f, n)
		}
	}
	for _, n := range []int{-1, -2, math.MinInt} {
		if e := d.Arm(n); e != api.ErrArg {
			t.Errorf("Arm of %d: error %d", n, e)
		}
		if f := fuseOf(t, d); f != 3 {
			t.Errorf("Arm of %d: a fuse of %d", n, f)
		}
	}
	must(t, d.Arm(math.MaxInt))
	if f := fuseOf(t, d); f != -1 || d.Ops() != 0 {
		t.Errorf("a fuse of %d, %d operations", f, d.Ops())
	}
}

// P17.3: Calm removes the fuse, and nothing else.
func TestCalm(t *testing.T) {
	for what, d := range states(t) {
		want := d.Clone()
		if what == "armed" {
			want = states(t)["waiting"]
		}
		d.Calm()
		sameState(t, what, d, want)
	}
	d := mustNew(t, 8)
	must(t, d.Arm(0))
	d.Calm()
	must(t, d.Sync())
}

// P17.3: each choice of six pending writes, with power and without; picks that are missing are false, and those of no writes are nothing.
func TestCrash(t *testing.T) {
	sectors := []int{5, 2, 5, 5, 0, 2}
	for _, fuse := range []int{5, 6, 9, -1} {
		for choice := range 1 << 6 {
			for _, n := range []int{0, 3, 6, 7} {
				d := mustLoad(t, bytes.Repeat([]byte{200}, 8*256))
				if fuse >= 0 {
					must(t, d.Arm(fuse))
				}
				for k, i := range sectors {
					d.Write(i, full(byte(k+1)))
				}
				ops := d.Ops()
				pick, want := make([]bool, n), bytes.Repeat([]byte{200}, 8*256)
				for k := range pick {
					pick[k] = k == 6 || choice>>k&1 == 1
					if k < 6 && pick[k] {
						copy(want[sectors[k]*256:], full(byte(k+1)))
					}
				}
				d.Crash(pick)
				if !bytes.Equal(d.Image(), want) || d.Waits() != 0 || !d.On() || d.Ops() != ops {
					t.Fatalf("fuse of %d, %v: %d waiting, on %v, %d operations of %d", fuse, pick, d.Waits(), d.On(), d.Ops(), ops)
				}
				if f := fuseOf(t, d); f != -1 {
					t.Fatalf("fuse of %d, %v: it is still there, at %d", fuse, pick, f)
				}
			}
		}
	}
}

// P17.3: what was discarded does not come back.
func TestDiscarded(t *testing.T) {
	d := mustNew(t, 8)
	for range 3 {
		must(t, d.Write(1, full(1)))
		must(t, d.Write(2, full(2)))
		d.Crash(nil)
		must(t, d.Write(3, full(3)))
		must(t, d.Sync())
	}
	for i, x := range []byte{0, 0, 0, 3, 0, 0, 0, 0} {
		if b := mustRead(t, d, i); !bytes.Equal(b, full(x)) || !bytes.Equal(place(d, i), b) {
			t.Errorf("sector %d is %x", i, b)
		}
	}
}

// P17.3: the bytes of writes that wait no more are not held.
func TestNotHeld(t *testing.T) {
	synced, crashed := states(t)["waiting"], states(t)["waiting"]
	must(t, synced.Sync())
	crashed.Crash([]bool{true})
	for _, d := range []*Disk{synced, crashed} {
		for i, w := range d.pending[:cap(d.pending)] {
			if w.data != nil {
				t.Errorf("write %d is held: %x", i, w.data)
			}
		}
	}
}

// P17.1: a clone has everything that its original has.
func TestClone(t *testing.T) {
	for what, d := range states(t) {
		c := d.Clone()
		if c == d || c.Sectors() != 8 {
			t.Errorf("%s: no clone, or one with %d sectors", what, c.Sectors())
		}
		sameState(t, what, c, d)
	}
}

// P17.1: what a clone does leaves its original as it was, and the other way round.
func TestCloneApart(t *testing.T) {
	change := map[string]func(d *Disk){
		"write": func(d *Disk) { d.Write(3, full(50)) },
		"sync":  func(d *Disk) { d.Sync() },
		"arm":   func(d *Disk) { d.Arm(1) },
		"calm":  func(d *Disk) { d.Calm() },
		"crash": func(d *Disk) { d.Crash([]bool{true}) },
		"crash, and write": func(d *Disk) {
			d.Crash(nil)
			d.Write(0, full(60))
			d.Write(1, full(61))
		},
	}
	for what, do := range change {
		for state := range states(t) {
			one, other := states(t)[state], states(t)[state]
			c := one.Clone()
			do(c)
			sameState(t, what+" of a clone, "+state, one, other)
			c = one.Clone()
			do(one)
			sameState(t, what+" of an original, "+state, c, other)
			do(other)
			sameState(t, what+", "+state, one, other)
		}
	}
}

// P17.1: clones that were made of the same disk write behind the same pending writes, each for itself.
func TestCloneTwins(t *testing.T) {
	d := states(t)["waiting"]
	a, b := d.Clone(), d.Clone()
	must(t, a.Write(6, full(10)))
	must(t, b.Write(6, full(11)))
	must(t, d.Write(6, full(12)))
	for i, x := range []*Disk{a, b, d} {
		if got := mustRead(t, x, 6); !bytes.Equal(got, full(byte(10+i))) {
			t.Errorf("sector 6 of disk %d is %x", i, got)
		}
		must(t, x.Sync())
		if got := place(x, 6); !bytes.Equal(got, full(byte(10+i))) {
			t.Errorf("sector 6 of disk %d became %x", i, got)
		}
	}
}

// P17.4, R5: a disk that was not created by this package.
func TestNotMade(t *testing.T) {
	for _, d := range []*Disk{nil, {}} {
		for range 2 { // the second time after all methods were called, which have no effect
			if b, e := d.Read(0); e != api.ErrMade || b != nil {
				t.Errorf("Read: %x, error %d", b, e)
			}
			if b, e := d.Read(-1); e != api.ErrMade || b != nil {
				t.Errorf("Read of no sector: %x, error %d", b, e)
			}
			if e := d.Write(0, full(1)); e != api.ErrMade {
				t.Errorf("Write: error %d", e)
			}
			if e := d.Write(-1, nil); e != api.ErrMade {
				t.Errorf("Write of no sector: error %d", e)
			}
			if e := d.Sync(); e != api.ErrMade {
				t.Errorf("Sync: error %d", e)
			}
			for _, n := range []int{-1, 0, 1} {
				if e := d.Arm(n); e != api.ErrMade {
					t.Errorf("Arm of %d: error %d", n, e)
				}
			}
			if d.Sectors() != 0 || d.On() || d.Waits() != 0 || d.Ops() != 0 || d.Image() != nil || d.Clone() != nil {
				t.Errorf("%d sectors, on %v, %d waiting, %d operations", d.Sectors(), d.On(), d.Waits(), d.Ops())
			}
			d.Calm()
			d.Crash(nil)
			d.Crash([]bool{true})
		}
	}
}

// R3: arguments are neither modified nor retained.
func TestArguments(t *testing.T) {
	image := bytes.Repeat([]byte{5}, 8*256)
	d := mustLoad(t, image)
	b, pick := full(6), []bool{true, false}
	must(t, d.Write(1, b))
	must(t, d.Write(2, b))
	c := d.Clone()
	if !bytes.Equal(b, full(6)) || !bytes.Equal(image, bytes.Repeat([]byte{5}, 8*256)) {
		t.Error("an argument was modified")
	}
	clear(image)
	clear(b)
	if !bytes.Equal(mustRead(t, d, 0), full(5)) || !bytes.Equal(mustRead(t, d, 1), full(6)) {
		t.Error("an argument was retained")
	}
	d.Crash(pick)
	must(t, c.Sync())
	if !slices.Equal(pick, []bool{true, false}) || !bytes.Equal(place(d, 1), full(6)) || !bytes.Equal(place(c, 2), full(6)) {
		t.Error("an argument was modified or retained")
	}
}

// R3: results share no memory with the disk, nor with each other.
func TestResults(t *testing.T) {
	d := states(t)["waiting"]
	before := d.Clone()
	for i := range 8 {
		clear(mustRead(t, d, i))
		b := mustRead(t, d, i)
		_ = append(b, full(40)...)
		for j := range b {
			b[j] = 41
		}
	}
	image := d.Image()
	for i := range image {
		image[i] = 42
	}
	sameState(t, "after the results were changed", d, before)
	for i, x := range []byte{0, 0, 0, 4, 3, 0, 0, 0} {
		if b := mustRead(t, d, i); !bytes.Equal(b, full(x)) {
			t.Errorf("sector %d is %x", i, b)
		}
	}
}

// R6: no picks are no picks, nil or empty.
func TestNoPicks(t *testing.T) {
	for what, d := range states(t) {
		c := d.Clone()
		d.Crash(nil)
		c.Crash([]bool{})
		sameState(t, what, d, c)
	}
}

// P17.3: the pending writes that are picked are visited in their order, and no more of them as soon as nobody asks.
func TestPicked(t *testing.T) {
	d := states(t)["waiting"]
	visited := func(most int, pick func(int) bool) []int {
		var sectors []int
		for w := range d.picked(pick) {
			sectors = append(sectors, w.sector)
			if len(sectors) == most {
				break
			}
		}
		return sectors
	}
	all := func(int) bool { return true }
	if s := visited(4, all); !slices.Equal(s, []int{3, 4, 3}) {
		t.Errorf("all: %v", s)
	}
	if s := visited(2, all); !slices.Equal(s, []int{3, 4}) {
		t.Errorf("two of all: %v", s)
	}
	if s := visited(4, func(i int) bool { return i == 1 }); !slices.Equal(s, []int{4}) {
		t.Errorf("the second one: %v", s)
	}
}
