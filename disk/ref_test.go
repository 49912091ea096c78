package disk

import (
	"bytes"
	"math/rand"
	"slices"
	"testing"

	"livery/api"
)

// refDisk is the chapter's disk, read step by step.
type refDisk struct {
	durable [][]byte
	pending []refWrite
	on      bool
	armed   bool
	fuse    int
	ops     int
}

type refWrite struct {
	sector int
	data   []byte
}

// newRef returns the disk that Load makes of whole sectors.
func newRef(b []byte) *refDisk {
	r := &refDisk{on: true}
	for s := range slices.Chunk(b, api.Sector) {
		r.durable = append(r.durable, bytes.Clone(s))
	}
	return r
}

func (r *refDisk) clone() *refDisk {
	c := *r
	c.durable = slices.Clone(r.durable)
	c.pending = slices.Clone(r.pending)
	return &c
}

func (r *refDisk) no(i int) bool { return i < 0 || i >= len(r.durable) }

func (r *refDisk) read(i int) ([]byte, api.Errno) {
	if r.no(i) {
		return nil, api.ErrArg
	}
	if !r.on {
		return nil, api.ErrPower
	}
	b := r.durable[i]
	for _, w := range r.pending {
		if w.sector == i {
			b = w.data
		}
	}
	return b, api.OK
}

func (r *refDisk) write(i int, b []byte) api.Errno {
	if r.no(i) || len(b) != 256 {
		return api.ErrArg
	}
	if !r.on {
		return api.ErrPower
	}
	r.pending = append(r.pending, refWrite{i, bytes.Clone(b)})
	if r.armed && r.fuse == 0 {
		r.on, r.armed = false, false
		return api.ErrPower
	}
	r.fuse--
	r.ops++
	return api.OK
}

func (r *refDisk) sync() api.Errno {
	if !r.on {
		return api.ErrPower
	}
	if r.armed && r.fuse == 0 {
		r.on, r.armed = false, false
		return api.ErrPower
	}
	for _, w := range r.pending {
		r.durable[w.sector] = w.data
	}
	r.pending = nil
	r.fuse--
	r.ops++
	return api.OK
}

func (r *refDisk) arm(n int) api.Errno {
	if n < 0 {
		return api.ErrArg
	}
	if !r.on {
		return api.ErrPower
	}
	r.armed, r.fuse = true, n
	return api.OK
}

func (r *refDisk) calm() { r.armed = false }

func (r *refDisk) crash(pick []bool) {
	for i, w := range r.pending {
		if i < len(pick) && pick[i] {
			r.durable[w.sector] = w.data
		}
	}
	r.pending = nil
	r.on, r.armed = true, false
}

// same checks everything that d tells of itself, but for its fuse.
func (r *refDisk) same(t *testing.T, what string, d *Disk) {
	t.Helper()
	if d.On() != r.on || d.Waits() != len(r.pending) || d.Ops() != r.ops || d.Sectors() != len(r.durable) {
		t.Fatalf("%s: on %v, %d waiting, %d operations, %d sectors, and not %v, %d, %d, %d",
			what, d.On(), d.Waits(), d.Ops(), d.Sectors(), r.on, len(r.pending), r.ops, len(r.durable))
	}
	if !bytes.Equal(d.Image(), bytes.Join(r.durable, nil)) {
		t.Fatalf("%s: another image", what)
	}
	for i := -1; i <= len(r.durable); i++ {
		b, e := d.Read(i)
		if want, f := r.read(i); e != f || !bytes.Equal(b, want) {
			t.Fatalf("%s: sector %d is %x %d, and not %x %d", what, i, b, e, want, f)
		}
	}
}

// pair is a disk, and the chapter's.
type pair struct {
	d *Disk
	r *refDisk
}

// step does something drawn to both, and returns what it was.
func (p *pair) step(t *testing.T, draw *rand.Rand) string {
	t.Helper()
	what := "calm"
	var e, want api.Errno
	switch draw.Intn(16) {
	case 0:
		p.d.Calm()
		p.r.calm()
	case 1:
		what = "crash"
		pick := somePick(draw, p.d.Waits())
		p.d.Crash(pick)
		p.r.crash(pick)
	case 2, 3:
		what = "arm"
		n := draw.Intn(12) - 1
		e, want = p.d.Arm(n), p.r.arm(n)
	case 4, 5:
		what = "sync"
		e, want = p.d.Sync(), p.r.sync()
	case 6:
		what = "wrong write"
		i, b := draw.Intn(len(p.r.durable)+2)-1, make([]byte, draw.Intn(3)*api.Sector)
		e, want = p.d.Write(i, b), p.r.write(i, b)
	default:
		what = "write"
		i, b := draw.Intn(len(p.r.durable)), some(draw, api.Sector)
		e, want = p.d.Write(i, b), p.r.write(i, b)
	}
	if e != want {
		t.Fatalf("%s: error %d, and not %d", what, e, want)
	}
	return what
}

// some returns n drawn bytes.
func some(draw *rand.Rand, n int) []byte {
	b := make([]byte, n)
	draw.Read(b)
	return b
}

// somePick returns picks for up to two writes more, or fewer, than there are.
func somePick(draw *rand.Rand, waits int) []bool {
	pick := make([]bool, max(0, waits+draw.Intn(5)-2))
	for i := range pick {
		pick[i] = draw.Intn(2) == 0
	}
	return pick
}

// P17.1 to P17.3, R4: drawn calls, on few sectors, so that writes meet.
func TestSteps(t *testing.T) {
	for seed := range int64(60) {
		draw := rand.New(rand.NewSource(seed))
		image := some(draw, (8+draw.Intn(3))*api.Sector)
		p := pair{mustLoad(t, image), newRef(image)}
		for range 120 {
			p.r.same(t, p.step(t, draw), p.d)
		}
	}
}

// P17.8: a clone does what its original does, and from then on neither affects the other.
func TestClones(t *testing.T) {
	for seed := range int64(60) {
		draw := rand.New(rand.NewSource(1000 + seed))
		image := some(draw, 8*api.Sector)
		pairs := []pair{{mustLoad(t, image), newRef(image)}}
		for range 100 {
			at := draw.Intn(len(pairs))
			if draw.Intn(10) == 0 && len(pairs) < 6 {
				pairs = append(pairs, pair{pairs[at].d.Clone(), pairs[at].r.clone()})
			}
			what := pairs[at].step(t, draw)
			for _, p := range pairs {
				p.r.same(t, what, p.d)
			}
		}
	}
}

// P17.8: the same calls lead a clone and its original to the same.
func TestCloneFollows(t *testing.T) {
	for seed := range int64(60) {
		draw := rand.New(rand.NewSource(2000 + seed))
		image := some(draw, 8*api.Sector)
		p := pair{mustLoad(t, image), newRef(image)}
		for range draw.Intn(30) {
			p.step(t, draw)
		}
		c := pair{p.d.Clone(), p.r.clone()}
		first, second := rand.New(rand.NewSource(seed)), rand.New(rand.NewSource(seed))
		for range 30 {
			what := p.step(t, first)
			c.step(t, second)
			p.r.same(t, what, p.d)
			p.r.same(t, what, c.d)
		}
	}
}

// drawnWaits returns a disk with writes that wait after a Sync; the power of some has failed.
func drawnWaits(t *testing.T, draw *rand.Rand) pair {
	t.Helper()
	image := some(draw, 8*api.Sector)
	p := pair{mustLoad(t, image), newRef(image)}
	writes := func(n int) {
		for range n {
			i, b := draw.Intn(8), some(draw, api.Sector)
			if e, want := p.d.Write(i, b), p.r.write(i, b); e != want {
				t.Fatalf("error %d, and not %d", e, want)
			}
		}
	}
	writes(draw.Intn(8))
	must(t, p.d.Sync())
	must(t, p.r.sync())
	if n := draw.Intn(12); n < 6 {
		must(t, p.d.Arm(n))
		must(t, p.r.arm(n))
	}
	writes(draw.Intn(8))
	return p
}

// P17.5, P17.6: after a Crash, a sector without a pending write is as it was synced, and each other one has its durable contents or those of one of its writes.
func TestDurable(t *testing.T) {
	draw := rand.New(rand.NewSource(175))
	for range 400 {
		p := drawnWaits(t, draw)
		before := p.d.Image()
		p.d.Crash(somePick(draw, p.d.Waits()))
		after := p.d.Image()
		for i := range 8 {
			at, end := i*api.Sector, (i+1)*api.Sector
			may := [][]byte{before[at:end]}
			for _, w := range p.r.pending {
				if w.sector == i {
					may = append(may, w.data)
				}
			}
			if !slices.ContainsFunc(may, func(b []byte) bool { return bytes.Equal(b, after[at:end]) }) {
				t.Fatalf("sector %d has none of its %d contents", i, len(may))
			}
		}
	}
}

// P17.7: a Crash that picks all writes is a Sync, and one that picks none leaves the durable contents.
func TestAllOrNothing(t *testing.T) {
	draw := rand.New(rand.NewSource(177))
	for range 400 {
		p := drawnWaits(t, draw)
		waits, before := p.d.Waits(), p.d.Image()
		all, none, nothing, synced := p.d.Clone(), p.d.Clone(), p.d.Clone(), p.d.Clone()
		all.Crash(slices.Repeat([]bool{true}, waits))
		none.Crash(make([]bool, waits))
		nothing.Crash(nil)
		if !bytes.Equal(none.Image(), before) || !bytes.Equal(nothing.Image(), before) {
			t.Fatalf("the durable contents of %d writes changed", waits)
		}
		synced.Calm()
		if !synced.On() {
			continue
		}
		must(t, synced.Sync())
		if !bytes.Equal(all.Image(), synced.Image()) {
			t.Fatalf("%d writes: a Crash that picks all is no Sync", waits)
		}
		for i := range 8 {
			a, e := all.Read(i)
			if b, f := p.d.Read(i); e != api.OK || f != api.OK || !bytes.Equal(a, b) {
				t.Fatalf("%d writes: sector %d is not as it was read", waits, i)
			}
		}
	}
}
