package journal

import (
	"bytes"
	"math"
	"math/rand"
	"slices"
	"testing"

	"livery/api"
	"livery/disk"
)

// The chapter's example.
func TestExample(t *testing.T) {
	j := mustFormat(t, mustDisk(t, 8))
	must(t, j.Append(make([]byte, 239)))
	must(t, j.Append(nil))
	if e := j.Append(nil); e != api.ErrFull {
		t.Errorf("a third record: error %d", e)
	}
	if j.Len() != 2 || j.Free() != 0 {
		t.Errorf("%d records, %d sectors free", j.Len(), j.Free())
	}
}

// P18.1: each number of bytes that there may be, and numbers that there may not be.
func TestSectors(t *testing.T) {
	want, room := 1, 239
	for n := range 262145 {
		if n > room {
			want, room = want+1, room+255
		}
		if got := Sectors(n); got != want {
			t.Fatalf("%d bytes: %d sectors, and not %d", n, got, want)
		}
	}
	for _, n := range []int{math.MinInt, math.MinInt + 1, -1 << 32, -240, -2, -1, 262145, 262146, 1 << 32, 1<<32 + 1, math.MaxInt - 1, math.MaxInt} {
		if got := Sectors(n); got != 0 {
			t.Errorf("%d bytes: %d sectors", n, got)
		}
	}
}

// state is a disk with a journal that contains c.
type state struct {
	d *disk.Disk
	c contents
}

// add appends a record, by the chapter's steps.
func (s *state) add(t *testing.T, b []byte) {
	t.Helper()
	must(t, perform(s.d, refAppend(s.d.Sectors(), s.c, b)))
	s.c = s.c.with(b)
}

// turn begins the next generation, by the chapter's steps.
func (s *state) turn(t *testing.T, b []byte) {
	t.Helper()
	must(t, perform(s.d, refBegin(s.d.Sectors(), s.c.generation+1, b)))
	s.c = s.c.next(b)
}

// states returns a journal in each kind of state. All areas but those of the fresh ones contain something older.
func states(t *testing.T) map[string]state {
	t.Helper()
	l := map[string]state{}
	draw := rand.New(rand.NewSource(18))
	for what, sectors := range map[string]int{"small": 8, "odd": 11, "large": 26} {
		_, size := refArea(sectors, 1)
		s := state{mustDisk(t, sectors), contents{1, [][]byte{nil}}}
		must(t, perform(s.d, refFormat(sectors)))
		l[what+", fresh"] = state{s.d.Clone(), s.c}
		s.add(t, some(draw, 100))
		l[what+", one record"] = state{s.d.Clone(), s.c}
		for s.c.used() < size { // each free sector has a first sector of its own
			s.add(t, some(draw, 239))
		}
		l[what+", full"] = state{s.d.Clone(), s.c}
		s.turn(t, some(draw, 10))
		for s.c.used() < size {
			s.add(t, nil)
		}
		l[what+", generation 2, full"] = state{s.d.Clone(), s.c}
		s.turn(t, some(draw, 239+255*(size-1)))
		l[what+", generation 3, a snapshot without room behind it"] = state{s.d.Clone(), s.c}
		s.turn(t, []byte("four"))
		l[what+", generation 4"] = state{s.d.Clone(), s.c}
		s.add(t, some(draw, 300))
		s.turn(t, some(draw, 240))
		l[what+", generation 5"] = state{s.d.Clone(), s.c}
	}
	return l
}

// P18.1: what Format writes, on any disk, and the journal that it returns.
func TestFormat(t *testing.T) {
	draw := rand.New(rand.NewSource(181))
	for _, sectors := range []int{8, 9, 10, 11, 100, 2047, 2048} {
		for what, d := range map[string]*disk.Disk{
			"zero bytes":  mustDisk(t, sectors),
			"drawn bytes": mustLoad(t, some(draw, sectors*256)),
			"a journal":   mustLoad(t, imageOf(sectors, contents{1, [][]byte{{1}, {2}, {3}}})),
		} {
			want := d.Clone()
			must(t, perform(want, refFormat(sectors)))
			j := mustFormat(t, d)
			c := contents{1, [][]byte{nil}}
			tells(t, what, j, sectors, c, true)
			sameDisk(t, what, d, want)
			if !bytes.Equal(d.Image(), imageOf(sectors, c)) {
				t.Errorf("%d sectors, %s: another image", sectors, what)
			}
			tells(t, what+", opened", mustOpen(t, d), sectors, c, true)
		}
	}
}

// P18.1: Format on a disk with pending writes makes them durable, and then overwrites them.
func TestFormatPending(t *testing.T) {
	d := mustDisk(t, 8)
	for i := range 8 {
		must(t, d.Write(i, bytes.Repeat([]byte{7}, 256)))
	}
	tells(t, "pending", mustFormat(t, d), 8, contents{1, [][]byte{nil}}, true)
	if !bytes.Equal(d.Image(), imageOf(8, contents{1, [][]byte{nil}})) {
		t.Error("another image")
	}
}

// P18.1: wherever the power fails in Format, the same steps were done, and there is no journal.
func TestFormatFuse(t *testing.T) {
	for what, s := range states(t) {
		steps := refFormat(s.d.Sectors())
		for fuse := range len(steps) + 2 {
			d, want := s.d.Clone(), s.d.Clone()
			must(t, d.Arm(fuse))
			must(t, want.Arm(fuse))
			j, e := Format(d)
			if f := perform(want, steps); e != f || (e == api.OK) != (fuse >= len(steps)) || (j == nil) != (e != api.OK) {
				t.Fatalf("%s, fuse of %d: error %d, and not %d", what, fuse, e, f)
			}
			sameDisk(t, what, d, want)
		}
	}
}

// P18.1, P1: disks that were not created, and disks without power.
func TestDiskErrors(t *testing.T) {
	for _, d := range []*disk.Disk{nil, {}} {
		if j, e := Format(d); e != api.ErrMade || j != nil {
			t.Errorf("Format: error %d", e)
		}
		if j, e := Open(d); e != api.ErrMade || j != nil {
			t.Errorf("Open: error %d", e)
		}
	}
	for what, s := range states(t) {
		must(t, s.d.Write(3, make([]byte, 256)))
		must(t, s.d.Arm(0))
		s.d.Sync()
		before := s.d.Clone()
		if j, e := Format(s.d); e != api.ErrPower || j != nil {
			t.Errorf("%s: Format: error %d", what, e)
		}
		if j, e := Open(s.d); e != api.ErrPower || j != nil {
			t.Errorf("%s: Open: error %d", what, e)
		}
		sameDisk(t, what, s.d, before)
	}
	d := mustDisk(t, 8) // neither a journal nor power
	must(t, d.Arm(0))
	d.Sync()
	if j, e := Open(d); e != api.ErrPower || j != nil {
		t.Errorf("Open: error %d", e)
	}
}

// P18.1: Open returns what is on the disk, and changes nothing, also of a fuse.
func TestOpen(t *testing.T) {
	for what, s := range states(t) {
		before := s.d.Clone()
		must(t, s.d.Arm(0))
		tells(t, what, mustOpen(t, s.d), s.d.Sectors(), s.c, true)
		sameDisk(t, what, s.d, before)
		if e := s.d.Sync(); e != api.ErrPower {
			t.Errorf("%s: the fuse is gone", what)
		}
	}
}

// P18.1: Open reads what pending writes have.
func TestOpenPending(t *testing.T) {
	d, c := mustDisk(t, 9), contents{6, [][]byte{{1}, {2}}}
	for i, s := range slices.Collect(slices.Chunk(imageOf(9, c), 256)) {
		must(t, d.Write(i, s))
	}
	tells(t, "pending", mustOpen(t, d), 9, c, true)
	d.Crash(nil)
	if _, e := Open(d); e != api.ErrJournal {
		t.Errorf("error %d", e)
	}
}

// openImage opens an image.
func openImage(t *testing.T, image []byte) (*Journal, api.Errno) {
	t.Helper()
	j, e := Open(mustLoad(t, image))
	if (j == nil) != (e != api.OK) {
		t.Fatalf("error %d, and a journal: %v", e, j != nil)
	}
	return j, e
}

// P18.1: a header with any other bit is none.
func TestHeaderBits(t *testing.T) {
	for _, sectors := range []int{8, 2047} {
		for _, g := range []uint32{1, 2, 255, 256, 65536, 1 << 31, math.MaxUint32} {
			image := imageOf(sectors, contents{g, [][]byte{[]byte("x")}})
			if _, e := openImage(t, image); e != api.OK {
				t.Fatalf("generation %d: error %d", g, e)
			}
			for bit := range 8 * 256 {
				if sectors > 8 && bit > 8*12 && bit < 8*255 {
					continue
				}
				at := int(g%2)*256 + bit/8
				image[at] ^= 1 << (bit % 8)
				if _, e := openImage(t, image); e != api.ErrJournal {
					t.Fatalf("generation %d, bit %d: error %d", g, bit, e)
				}
				image[at] ^= 1 << (bit % 8)
			}
		}
	}
}

// P18.1: headers that are in the wrong sector, of another disk, or of generation 0.
func TestHeaderNone(t *testing.T) {
	records := [][]byte{[]byte("x"), []byte("y")}
	for g := range uint32(6) {
		for _, sectors := range []int{8, 11} {
			area := imageOf(sectors, contents{g, records})
			clear(area[:512])
			for at := range 2 {
				for _, of := range []int{0, 7, 8, 9, 11, 264, 2048} {
					image := bytes.Clone(area)
					put(image, at, refHeader(g, of))
					want := api.ErrJournal
					if of == sectors && at == int(g%2) && g > 0 {
						want = api.OK
					}
					if _, e := openImage(t, image); e != want {
						t.Errorf("generation %d of %d sectors in sector %d of %d: error %d", g, of, at, sectors, e)
					}
				}
			}
		}
	}
	if _, e := openImage(t, make([]byte, 8*256)); e != api.ErrJournal {
		t.Errorf("zero bytes: error %d", e)
	}
	if _, e := openImage(t, bytes.Repeat([]byte{0xFF}, 8*256)); e != api.ErrJournal {
		t.Errorf("bytes 255: error %d", e)
	}
}

// P18.1: the greater generation is used, in whichever sector it is, and alone if it is damaged.
func TestHeaderGreater(t *testing.T) {
	for _, p := range [][2]uint32{{1, 2}, {2, 1}, {2, 3}, {3, 2}, {1, 4}, {7, 256}, {1<<31 - 1, 1 << 31}, {1, math.MaxUint32 - 1}, {math.MaxUint32, 2}, {math.MaxUint32 - 1, math.MaxUint32}} {
		one, two := contents{p[0], [][]byte{[]byte("one"), {1}}}, contents{p[1], [][]byte{[]byte("two")}}
		image := make([]byte, 10*256)
		putContents(image, one)
		putContents(image, two)
		greater, other := one, two
		if two.generation > one.generation {
			greater, other = two, one
		}
		j, e := openImage(t, image)
		must(t, e)
		tells(t, "both", j, 10, greater, true)
		image[int(greater.generation%2)*256+7] ^= 1
		j, e = openImage(t, image)
		must(t, e)
		tells(t, "the other one", j, 10, other, true)
		image[int(greater.generation%2)*256+7] ^= 1
		at, _ := refArea(10, greater.generation)
		image[at*256] ^= 1 // a record that is damaged does not lead to the other generation
		if _, e := openImage(t, image); e != api.ErrRot {
			t.Errorf("generations %d: error %d", p, e)
		}
	}
}

// P18.1: records end at what is not a first sector, or not of this generation, or not of the next number.
func TestRecordsEnd(t *testing.T) {
	c := contents{5, [][]byte{[]byte("s"), []byte("a"), bytes.Repeat([]byte("b"), 300)}}
	first, size := refArea(24, 5)
	end := first + c.used()
	cases := map[string][]byte{
		"zero bytes":           make([]byte, 256),
		"bytes 255":            bytes.Repeat([]byte{255}, 256),
		"an older generation":  refRecord(3, 3, nil)[0],
		"a newer generation":   refRecord(6, 3, nil)[0],
		"generation 0":         refRecord(0, 3, nil)[0],
		"another high byte":    refRecord(5+1<<24, 3, nil)[0],
		"the same number":      refRecord(5, 2, nil)[0],
		"the first number":     refRecord(5, 0, nil)[0],
		"the number after it":  refRecord(5, 4, nil)[0],
		"another high number":  refRecord(5, 3+1<<24, nil)[0],
		"a further sector":     refRecord(5, 3, make([]byte, 300))[1],
		"a header":             refHeader(5, 24),
		"a C at the beginning": append([]byte{67}, refRecord(5, 3, nil)[0][1:]...),
		"an f at the start":    append([]byte{'f'}, refRecord(5, 3, nil)[0][1:]...),
	}
	for what, s := range cases {
		image := imageOf(24, c)
		put(image, end, s, refRecord(5, 3, []byte("not reached"))[0])
		j, e := openImage(t, image)
		must(t, e)
		tells(t, what, j, 24, c, true)
	}
	for c.used() < size { // nor are they read beyond the area
		c = c.with([]byte{byte(c.used())})
	}
	image := imageOf(24, c)
	if first+size != 24 {
		t.Fatal("this area is not at the end")
	}
	j, e := openImage(t, image)
	must(t, e)
	tells(t, "full", j, 24, c, true)
	even := contents{4, c.records}
	image = imageOf(24, even)
	put(image, first, refRecord(4, len(c.records), nil)...)
	j, e = openImage(t, image)
	must(t, e)
	tells(t, "full, and a fitting record in the other area", j, 24, even, true)
}

// resum writes the checksum that bytes of a record would have into its first sector.
func resum(first, data []byte) {
	g := uint32(first[1])<<24 | uint32(first[2])<<16 | uint32(first[3])<<8 | uint32(first[4])
	number := int(first[5])<<24 | int(first[6])<<16 | int(first[7])<<8 | int(first[8])
	copy(first[13:17], refRecord(g, number, data)[0][13:17])
}

// P18.1: each way in which a record may be damaged, of the snapshot and of another record.
func TestRot(t *testing.T) {
	for number := range 3 {
		for _, g := range []uint32{4, 5} {
			c := contents{g, [][]byte{[]byte("s"), []byte("a")}}
			c.records = c.records[:number]
			first, size := refArea(24, g)
			at, left := first+c.used(), size-c.used()
			rots := func(what string, sectors ...[]byte) {
				t.Helper()
				image := imageOf(24, c)
				put(image, at, sectors...)
				if _, e := openImage(t, image); e != api.ErrRot {
					t.Errorf("number %d, %s: error %d", number, what, e)
				}
			}
			long := func(n uint32) []byte {
				s := refRecord(g, number, nil)[0]
				s[9], s[10], s[11], s[12] = byte(n>>24), byte(n>>16), byte(n>>8), byte(n)
				return s
			}
			for _, n := range []uint32{262145, 262144, 1 << 31, 1<<31 + 5, math.MaxUint32, math.MaxUint32 - 238, uint32(240 + 255*(left-1))} {
				rots("too long", long(n))
			}
			zeros := uint32(240)
			s := long(zeros)
			resum(s, make([]byte, zeros))
			rots("no further sector", s)
			for _, n := range lengths() {
				checkRots(t, rots, g, number, n)
			}
			whole := 239 + 255*(left-1)
			image := imageOf(24, c.with(bytes.Repeat([]byte{9}, whole)))
			j, e := openImage(t, image)
			must(t, e)
			tells(t, "whole area", j, 24, c.with(bytes.Repeat([]byte{9}, whole)), true)
		}
	}
}

// checkRots damages a record of n bytes in each of its parts.
func checkRots(t *testing.T, rots func(string, ...[]byte), g uint32, number, n int) {
	t.Helper()
	data := bytes.Repeat([]byte{0xA5}, n)
	for k := range refRecord(g, number, data) {
		if k > 0 {
			for _, mark := range []byte{0, 'F', 'H', 'c', 'C' + 1, 255} {
				l := refRecord(g, number, data)
				l[k][0] = mark
				rots("a mark", l...)
			}
		}
	}
	for bit := range 32 {
		l := refRecord(g, number, data)
		l[0][13+bit/8] ^= 1 << (bit % 8)
		rots("a checksum", l...)
	}
	l := refRecord(g, number, data)
	head := 17
	if len(l) > 1 {
		head = 1
	}
	used := 256 // of the last sector
	if n < 239 {
		used = 17 + n
	} else if len(l) > 1 {
		used = 1 + (n-239-1)%255 + 1
	}
	for p := used; p < 256; p++ {
		l := refRecord(g, number, data)
		l[len(l)-1][p] = 1
		rots("padding", l...)
	}
	for p := head; p < used; p++ {
		l := refRecord(g, number, data)
		l[len(l)-1][p] ^= 0x10
		rots("a byte", l...)
	}
	for p := 17; p < 256 && len(l) > 1; p++ {
		l := refRecord(g, number, data)
		l[0][p] ^= 0x10
		rots("a byte of the first sector", l...)
	}
	if n > 0 { // a byte less, or more, than were written
		for _, other := range []int{n - 1, n + 1} {
			l := refRecord(g, number, data)
			l[0][11], l[0][12] = byte(other>>8), byte(other)
			rots("another length", l...)
		}
		l := refRecord(g, number, data)
		l[0][11], l[0][12] = byte((n-1)>>8), byte(n-1)
		resum(l[0], data[:n-1]) // all is right, but for the padding or the sector that is left
		if len(refRecord(g, number, data[:n-1])) == len(l) {
			rots("a shorter record before other bytes", l...)
		}
	}
}

// P18.1: without a number 0, there is no journal, whatever else is there.
func TestNoSnapshot(t *testing.T) {
	for _, g := range []uint32{1, 2, 9} {
		for what, s := range map[string][]byte{
			"zero bytes":         make([]byte, 256),
			"number 1":           refRecord(g, 1, nil)[0],
			"another generation": refRecord(g+2, 0, nil)[0],
			"an older one":       refRecord(g-1, 0, nil)[0],
			"a further sector":   refRecord(g, 0, make([]byte, 300))[1],
		} {
			image := imageOf(12, contents{g, [][]byte{nil, {1}, {2}}})
			at, _ := refArea(12, g)
			put(image, at, s)
			if _, e := openImage(t, image); e != api.ErrRot {
				t.Errorf("generation %d, %s: error %d", g, what, e)
			}
		}
	}
}

// mutate damages an image in one of many ways; checksums often remain right.
func mutate(draw *rand.Rand, image []byte, c contents) {
	sectors := len(image) / 256
	first, size := refArea(sectors, c.generation)
	i := first + draw.Intn(size)
	s := image[i*256 : (i+1)*256]
	switch draw.Intn(9) {
	case 0:
		image[draw.Intn(len(image))] ^= 1 << draw.Intn(8)
	case 1:
		s[draw.Intn(20)] ^= 1 << draw.Intn(8)
	case 2:
		clear(s)
	case 3:
		put(image, i, image[256*(first+draw.Intn(size)):][:256])
	case 4:
		put(image, i, refRecord(c.generation, draw.Intn(5), some(draw, draw.Intn(240)))...)
	case 5:
		image[draw.Intn(12)+256*draw.Intn(2)] ^= 1 << draw.Intn(8)
	case 6:
		g := uint32(draw.Intn(8))
		put(image, draw.Intn(2), refHeader(g, sectors))
	case 7:
		n := draw.Intn(256)
		s[9], s[10], s[11], s[12] = 0, 0, 0, byte(n)
		if n < 240 {
			resum(s, s[17:17+n])
		}
	case 8:
		s[0] = "FCH"[draw.Intn(3)]
	}
}

// P18.1: Open of images that were damaged in drawn ways, against the chapter's, with all outcomes.
func TestOpenDrawn(t *testing.T) {
	draw := rand.New(rand.NewSource(1811))
	seen := map[api.Errno]int{}
	for range 20000 {
		sectors := 8 + draw.Intn(12)
		image := make([]byte, sectors*256)
		g := uint32(1 + draw.Intn(5))
		var c contents
		for c.generation = g; c.generation < g+2; c.generation++ {
			c.records = nil
			for _, size := refArea(sectors, g); ; {
				b := some(draw, []int{0, 5, 239, 240, 500}[draw.Intn(5)])
				if c.with(b).used() > size {
					break
				}
				c.records = append(c.records, b)
			}
			putContents(image, c)
		}
		c.generation--
		for range draw.Intn(4) {
			mutate(draw, image, c)
		}
		want, f := refOpen(image)
		j, e := openImage(t, image)
		if e != f {
			t.Fatalf("error %d, and not %d", e, f)
		}
		seen[e]++
		if e == api.OK {
			tells(t, "drawn", j, sectors, want, true)
		}
	}
	for _, e := range []api.Errno{api.OK, api.ErrJournal, api.ErrRot} {
		if seen[e] < 200 {
			t.Errorf("error %d only %d times", e, seen[e])
		}
	}
}

// attempt is an Append or a Checkpoint, with the chapter's steps and contents after it.
type attempt struct {
	what  string
	do    func(j *Journal) api.Errno
	steps []step
	after contents
}

// attempts returns those attempts with b that have room in s.
func attempts(s state, b []byte) []attempt {
	var l []attempt
	_, size := refArea(s.d.Sectors(), 1)
	if s.c.with(b).used() <= size {
		l = append(l, attempt{"append", func(j *Journal) api.Errno { return j.Append(b) }, refAppend(s.d.Sectors(), s.c, b), s.c.with(b)})
	}
	if next := s.c.next(b); next.used() <= size {
		l = append(l, attempt{"checkpoint", func(j *Journal) api.Errno { return j.Checkpoint(b) }, refBegin(s.d.Sectors(), next.generation, b), next})
	}
	return l
}

// P18.2: Append and Checkpoint write what the chapter writes, and die where the power fails; what they told remains.
func TestWrites(t *testing.T) {
	draw := rand.New(rand.NewSource(182))
	for what, s := range states(t) {
		for _, n := range lengths() {
			for _, a := range attempts(s, some(draw, n)) {
				for fuse := range len(a.steps) + 2 {
					d, want := s.d.Clone(), s.d.Clone()
					j := mustOpen(t, d)
					must(t, d.Arm(fuse))
					must(t, want.Arm(fuse))
					e, f := a.do(j), perform(want, a.steps)
					if e != f || (e == api.OK) != (fuse >= len(a.steps)) {
						t.Fatalf("%s, %s of %d, fuse of %d: error %d, and not %d", what, a.what, n, fuse, e, f)
					}
					sameDisk(t, what+", "+a.what, d, want)
					c := s.c
					if e == api.OK {
						c = a.after
					}
					tells(t, what+", "+a.what, j, d.Sectors(), c, e == api.OK)
					if e == api.OK {
						tells(t, what+", "+a.what+", opened", mustOpen(t, d), d.Sectors(), c, true)
					}
				}
			}
		}
	}
}

// P18.2: the largest records, and what fits exactly and what does not, in each state.
func TestFull(t *testing.T) {
	for what, s := range states(t) {
		j := mustOpen(t, s.d)
		before := s.d.Clone()
		_, size := refArea(s.d.Sectors(), 1)
		free := size - s.c.used()
		for _, n := range []int{max(0, 239+255*(free-1)+1), 239 + 255*(size-1) + 1, 262143, 262144} {
			if e := j.Append(make([]byte, n)); e != api.ErrFull {
				t.Errorf("%s: Append of %d bytes: error %d", what, n, e)
			}
		}
		for _, n := range []int{239 + 255*(size-1) + 1, 262143, 262144} {
			if e := j.Checkpoint(make([]byte, n)); e != api.ErrFull {
				t.Errorf("%s: Checkpoint of %d bytes: error %d", what, n, e)
			}
		}
		for _, n := range []int{262145, 262146, 1 << 20} {
			if e := j.Append(make([]byte, n)); e != api.ErrLong {
				t.Errorf("%s: Append of %d bytes: error %d", what, n, e)
			}
			if e := j.Checkpoint(make([]byte, n)); e != api.ErrLong {
				t.Errorf("%s: Checkpoint of %d bytes: error %d", what, n, e)
			}
		}
		sameDisk(t, what, s.d, before)
		tells(t, what, j, s.d.Sectors(), s.c, true)
		c := s.c
		if free > 0 {
			b := bytes.Repeat([]byte{3}, 239+255*(free-1))
			must(t, j.Append(b))
			c = c.with(b)
			tells(t, what+", filled", j, s.d.Sectors(), c, true)
		}
		b := bytes.Repeat([]byte{4}, 239+255*(size-1))
		must(t, j.Checkpoint(b))
		tells(t, what+", turned", j, s.d.Sectors(), c.next(b), true)
		tells(t, what+", opened", mustOpen(t, s.d), s.d.Sectors(), c.next(b), true)
	}
}

// P18.2: the largest record of the largest disk; MaxRecord bytes fit on none.
func TestLargest(t *testing.T) {
	d := mustDisk(t, 2048)
	j := mustFormat(t, d)
	b := some(rand.New(rand.NewSource(1)), 239+255*1021)
	must(t, j.Append(b))
	c := contents{1, [][]byte{nil, b}}
	tells(t, "largest", j, 2048, c, true)
	tells(t, "largest, opened", mustOpen(t, d), 2048, c, true)
	snapshot := append(b, some(rand.New(rand.NewSource(2)), 255)...)
	if e := j.Checkpoint(append(snapshot, 0)); e != api.ErrFull {
		t.Errorf("error %d", e)
	}
	must(t, j.Checkpoint(snapshot))
	tells(t, "largest snapshot", mustOpen(t, d), 2048, contents{2, [][]byte{snapshot}}, true)
	for n := range 1022 { // and the most records
		must(t, j.Checkpoint(nil))
		for range n % 3 {
			must(t, j.Append([]byte{byte(n)}))
		}
	}
	must(t, j.Checkpoint(nil))
	c = contents{j.Generation(), [][]byte{nil}}
	for n := range 1022 {
		must(t, j.Append([]byte{byte(n), byte(n >> 8)}))
		c.records = append(c.records, []byte{byte(n), byte(n >> 8)})
	}
	if e := j.Append(nil); e != api.ErrFull {
		t.Errorf("error %d", e)
	}
	tells(t, "most records", mustOpen(t, d), 2048, c, true)
}

// P18.2: after the last generation there is no Checkpoint, but records still.
func TestLastGeneration(t *testing.T) {
	d := mustLoad(t, imageOf(12, contents{math.MaxUint32 - 1, [][]byte{[]byte("s")}}))
	j := mustOpen(t, d)
	must(t, j.Checkpoint([]byte("last")))
	c := contents{math.MaxUint32, [][]byte{[]byte("last")}}
	tells(t, "last", j, 12, c, true)
	for _, k := range []*Journal{j, mustOpen(t, d)} {
		before := d.Clone()
		if e := k.Checkpoint(nil); e != api.ErrFull {
			t.Errorf("error %d", e)
		}
		if e := k.Checkpoint(make([]byte, 262145)); e != api.ErrLong {
			t.Errorf("too long: error %d", e)
		}
		sameDisk(t, "last", d, before)
		tells(t, "last", k, 12, c, true)
	}
	must(t, j.Append([]byte("a")))
	tells(t, "last, opened", mustOpen(t, d), 12, c.with([]byte("a")), true)
}

// P18.2: a dead journal returns ErrPower ahead of all other errors, writes nothing, and tells what it told.
func TestDead(t *testing.T) {
	for what, s := range states(t) {
		for _, checkpoint := range []bool{false, true} {
			d := s.d.Clone()
			j := mustOpen(t, d)
			if !checkpoint && j.Free() == 0 {
				continue
			}
			must(t, d.Arm(1))
			e := api.OK
			if checkpoint {
				e = j.Checkpoint([]byte("c"))
			} else {
				e = j.Append([]byte("a"))
			}
			if e != api.ErrPower {
				t.Fatalf("%s: error %d", what, e)
			}
			for range 2 { // the second time with power
				before := d.Clone()
				for _, n := range []int{0, 1, 5000, 262144, 262145} {
					if e := j.Append(make([]byte, n)); e != api.ErrPower {
						t.Errorf("%s: Append of %d: error %d", what, n, e)
					}
					if e := j.Checkpoint(make([]byte, n)); e != api.ErrPower {
						t.Errorf("%s: Checkpoint of %d: error %d", what, n, e)
					}
				}
				sameDisk(t, what, d, before)
				tells(t, what, j, d.Sectors(), s.c, false)
				d.Crash(nil)
			}
		}
	}
}

// P18.2: arguments are checked ahead of a power that the journal does not know to have failed.
func TestPowerUnknown(t *testing.T) {
	d := mustDisk(t, 8)
	j := mustFormat(t, d)
	k := mustOpen(t, d)
	must(t, d.Arm(0))
	d.Sync()
	tells(t, "power off", j, 8, contents{1, [][]byte{nil}}, true)
	if e := j.Append(make([]byte, 262145)); e != api.ErrLong {
		t.Errorf("too long: error %d", e)
	}
	if e := j.Checkpoint(make([]byte, 240+255*2)); e != api.ErrFull {
		t.Errorf("no room: error %d", e)
	}
	tells(t, "power off", j, 8, contents{1, [][]byte{nil}}, true)
	for _, e := range []api.Errno{j.Append(nil), k.Checkpoint(nil)} {
		if e != api.ErrPower {
			t.Errorf("error %d", e)
		}
	}
	tells(t, "dead", j, 8, contents{1, [][]byte{nil}}, false)
	tells(t, "dead", k, 8, contents{1, [][]byte{nil}}, false)
}

// P18.3: All is stopped, starts again, and has the records that there were when it was called.
func TestAll(t *testing.T) {
	d := mustDisk(t, 40)
	j := mustFormat(t, d)
	for i := range 5 {
		must(t, j.Append([]byte{byte(i + 1)}))
	}
	all := j.All()
	for most := range 6 {
		var got []int
		for number, b := range all {
			if len(b) != 1 || int(b[0]) != number {
				t.Fatalf("number %d is %x", number, b)
			}
			if got = append(got, number); len(got) > most {
				break
			}
		}
		if want := []int{1, 2, 3, 4, 5}[:min(most+1, 5)]; !slices.Equal(got, want) {
			t.Errorf("%v, and not %v", got, want)
		}
	}
	n := 0
	for range j.All() { // what is appended meanwhile is not among them
		must(t, j.Append([]byte("more")))
		n++
	}
	if n != 5 || j.Len() != 10 {
		t.Errorf("%d of %d", n, j.Len())
	}
	n = 0
	for number, b := range j.All() {
		if number == 2 {
			must(t, j.Checkpoint([]byte("s")))
			must(t, d.Write(30, make([]byte, 256)))
			must(t, d.Arm(0))
			d.Sync()
		}
		if n++; number != n || n <= 5 && !bytes.Equal(b, []byte{byte(n)}) || n > 5 && string(b) != "more" {
			t.Errorf("number %d is %x", number, b)
		}
	}
	if n != 10 || j.Len() != 0 {
		t.Errorf("%d of 10, %d", n, j.Len())
	}
	for range all {
		n++
	}
	if n != 15 {
		t.Errorf("%d more", n-10)
	}
}

// P18.3: what was read or appended is told, whatever happens to the disk.
func TestTold(t *testing.T) {
	for what, s := range states(t) {
		j := mustOpen(t, s.d)
		for i := range s.d.Sectors() {
			must(t, s.d.Write(i, bytes.Repeat([]byte{1}, 256)))
		}
		must(t, s.d.Sync())
		tells(t, what, j, s.d.Sectors(), s.c, true)
		must(t, s.d.Arm(0))
		s.d.Sync()
		tells(t, what+", power off", j, s.d.Sectors(), s.c, true)
	}
}

// P18.3: Room of any number of bytes.
func TestRoom(t *testing.T) {
	for what, s := range states(t) {
		j := mustOpen(t, s.d)
		for n := range 4000 {
			want := s.c.with(make([]byte, n)).used() <= s.c.used()+j.Free()
			if j.Room(n) != want {
				t.Fatalf("%s: Room of %d is %v", what, n, !want)
			}
		}
		for _, n := range []int{math.MinInt, -240, -1, 262144, 262145, 1 << 32, math.MaxInt} {
			if j.Room(n) {
				t.Errorf("%s: Room of %d", what, n)
			}
		}
	}
}

// P18.2, P18.3, R5: a journal that was not created by this package.
func TestNotMade(t *testing.T) {
	for _, j := range []*Journal{nil, {}} {
		for range 2 {
			for _, n := range []int{0, 1, 300000} {
				if e := j.Append(make([]byte, n)); e != api.ErrMade {
					t.Errorf("Append of %d: error %d", n, e)
				}
				if e := j.Checkpoint(make([]byte, n)); e != api.ErrMade {
					t.Errorf("Checkpoint of %d: error %d", n, e)
				}
			}
			for _, n := range []int{math.MinInt, -1, 0, 1, math.MaxInt} {
				if j.Room(n) {
					t.Errorf("Room of %d", n)
				}
			}
			if j.Snapshot() != nil || j.Free() != 0 || j.Len() != 0 || j.Generation() != 0 || j.On() {
				t.Error("it tells something")
			}
			for range j.All() {
				t.Error("it has a record")
			}
		}
	}
}

// R3: arguments are neither modified nor retained.
func TestArguments(t *testing.T) {
	d := mustDisk(t, 20)
	j := mustFormat(t, d)
	for _, n := range []int{3, 300} {
		b := bytes.Repeat([]byte{5}, n)
		must(t, j.Append(b))
		if !bytes.Equal(b, bytes.Repeat([]byte{5}, n)) {
			t.Error("an argument was modified")
		}
		clear(b)
	}
	tells(t, "records", j, 20, contents{1, [][]byte{nil, {5, 5, 5}, bytes.Repeat([]byte{5}, 300)}}, true)
	b := bytes.Repeat([]byte{6}, 300)
	must(t, j.Checkpoint(b))
	if !bytes.Equal(b, bytes.Repeat([]byte{6}, 300)) {
		t.Error("an argument was modified")
	}
	clear(b)
	tells(t, "snapshot", j, 20, contents{2, [][]byte{bytes.Repeat([]byte{6}, 300)}}, true)
}

// R3: results share no memory with the journal, nor with each other.
func TestResults(t *testing.T) {
	for what, s := range states(t) {
		j := mustOpen(t, s.d)
		all := j.All()
		for range 2 {
			var l [][]byte
			for _, b := range all {
				l = append(l, b)
			}
			for i, b := range append(l, j.Snapshot(), j.Snapshot()) {
				_ = append(b, 1, 2, 3)
				for p := range b {
					b[p] = byte(i)
				}
			}
		}
		tells(t, what, j, s.d.Sectors(), s.c, true)
	}
}

// R4: the same calls lead to the same disk.
func TestSame(t *testing.T) {
	run := func() *disk.Disk {
		d := mustDisk(t, 30)
		j := mustFormat(t, d)
		for n := range 8 {
			must(t, j.Append(bytes.Repeat([]byte{byte(n)}, 60*n)))
		}
		must(t, j.Checkpoint([]byte("s")))
		must(t, j.Append([]byte("a")))
		return d
	}
	sameDisk(t, "twice", run(), run())
}

// R6: no bytes are no bytes, nil or empty.
func TestNoBytes(t *testing.T) {
	a, b := mustDisk(t, 10), mustDisk(t, 10)
	j, k := mustFormat(t, a), mustFormat(t, b)
	must(t, j.Append(nil))
	must(t, k.Append([]byte{}))
	sameDisk(t, "append", a, b)
	must(t, j.Checkpoint(nil))
	must(t, k.Checkpoint([]byte{}))
	sameDisk(t, "checkpoint", a, b)
	tells(t, "nil", j, 10, contents{2, [][]byte{nil}}, true)
	tells(t, "empty", k, 10, contents{2, [][]byte{nil}}, true)
}
