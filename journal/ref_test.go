package journal

import (
	"bytes"
	"crypto/sha256"
	"encoding/binary"
	"math/rand"
	"slices"
	"testing"

	"livery/api"
	"livery/disk"
)

// contents is what a journal consists of: records by their numbers, the snapshot first.
type contents struct {
	generation uint32
	records    [][]byte
}

// with returns c with one record more.
func (c contents) with(b []byte) contents {
	return contents{c.generation, append(slices.Clone(c.records), b)}
}

// next returns the generation after c, with that snapshot.
func (c contents) next(snapshot []byte) contents {
	return contents{c.generation + 1, [][]byte{snapshot}}
}

func (c contents) equal(o contents) bool {
	return c.generation == o.generation && slices.EqualFunc(c.records, o.records, bytes.Equal)
}

// used returns how many sectors of its area c takes.
func (c contents) used() int {
	n := 0
	for _, b := range c.records {
		n += len(refRecord(0, 0, b))
	}
	return n
}

// refArea returns the area of a generation: its first sector, and how many there are.
func refArea(sectors int, g uint32) (first, size int) {
	size = (sectors - 2) / 2
	if g%2 == 0 {
		return 2, size
	}
	return 2 + size, size
}

// refHeader is the chapter's header, byte by byte.
func refHeader(g uint32, sectors int) []byte {
	b := make([]byte, 256)
	b[0] = 72
	binary.BigEndian.PutUint32(b[1:5], g)
	binary.BigEndian.PutUint16(b[5:7], uint16(sectors))
	sum := sha256.Sum256(b[1:7])
	copy(b[7:11], sum[:4])
	return b
}

// refRecord is the chapter's record, sector by sector.
func refRecord(g uint32, number int, b []byte) [][]byte {
	first := make([]byte, 256)
	first[0] = 70
	binary.BigEndian.PutUint32(first[1:5], g)
	binary.BigEndian.PutUint32(first[5:9], uint32(number))
	binary.BigEndian.PutUint32(first[9:13], uint32(len(b)))
	sum := sha256.Sum256(append(bytes.Clone(first[1:13]), b...))
	copy(first[13:17], sum[:4])
	here := min(len(b), 239)
	copy(first[17:], b[:here])
	l := [][]byte{first}
	for piece := range slices.Chunk(b[here:], 255) {
		s := make([]byte, 256)
		s[0] = 67
		copy(s[1:], piece)
		l = append(l, s)
	}
	return l
}

// step is a Write of data to a sector or, without data, a Sync.
type step struct {
	at   int
	data []byte
}

// refWrite is how the chapter writes a record to the sectors from at on.
func refWrite(at int, record [][]byte) []step {
	var l []step
	for i, s := range record {
		if i > 0 {
			l = append(l, step{at + i, s})
		}
	}
	if len(record) > 1 {
		l = append(l, step{})
	}
	return append(l, step{at, record[0]}, step{})
}

// refBegin is how the chapter begins a generation.
func refBegin(sectors int, g uint32, snapshot []byte) []step {
	at, _ := refArea(sectors, g)
	l := refWrite(at, refRecord(g, 0, snapshot))
	return append(l, step{int(g % 2), refHeader(g, sectors)}, step{})
}

// refFormat is how the chapter formats a disk.
func refFormat(sectors int) []step {
	var l []step
	for i := range sectors {
		l = append(l, step{i, make([]byte, 256)})
	}
	return append(append(l, step{}), refBegin(sectors, 1, nil)...)
}

// refAppend is how the chapter appends a record to c.
func refAppend(sectors int, c contents, b []byte) []step {
	first, _ := refArea(sectors, c.generation)
	return refWrite(first+c.used(), refRecord(c.generation, len(c.records), b))
}

// perform does the steps with a disk until one fails.
func perform(d *disk.Disk, steps []step) api.Errno {
	for _, s := range steps {
		e := api.OK
		if s.data == nil {
			e = d.Sync()
		} else {
			e = d.Write(s.at, s.data)
		}
		if e != api.OK {
			return e
		}
	}
	return api.OK
}

// put writes sectors into an image, from sector at on.
func put(image []byte, at int, sectors ...[]byte) {
	for i, s := range sectors {
		copy(image[(at+i)*256:(at+i+1)*256], s)
	}
}

// putContents writes the header and the records of c into an image.
func putContents(image []byte, c contents) {
	sectors := len(image) / 256
	put(image, int(c.generation%2), refHeader(c.generation, sectors))
	at, _ := refArea(sectors, c.generation)
	for number, b := range c.records {
		l := refRecord(c.generation, number, b)
		put(image, at, l...)
		at += len(l)
	}
}

// imageOf returns the image of a disk that contains c, and otherwise zero bytes.
func imageOf(sectors int, c contents) []byte {
	image := make([]byte, sectors*256)
	putContents(image, c)
	return image
}

// refOpen is the chapter's Open, field by field, of an image.
func refOpen(image []byte) (contents, api.Errno) {
	var l [][]byte
	for s := range slices.Chunk(image, 256) {
		l = append(l, s)
	}
	var g uint32
	for i := range 2 {
		h := binary.BigEndian.Uint32(l[i][1:5])
		if h >= 1 && int(h%2) == i && bytes.Equal(l[i], refHeader(h, len(l))) && h > g {
			g = h
		}
	}
	if g == 0 {
		return contents{}, api.ErrJournal
	}
	first, size := refArea(len(l), g)
	area, c := l[first:first+size], contents{generation: g}
	for len(area) > 0 {
		s := area[0]
		if s[0] != 70 || binary.BigEndian.Uint32(s[1:5]) != g || binary.BigEndian.Uint32(s[5:9]) != uint32(len(c.records)) {
			break
		}
		b, rest := refData(area)
		if rest == nil {
			return contents{}, api.ErrRot
		}
		c.records = append(c.records, b)
		area = rest
	}
	if len(c.records) == 0 {
		return contents{}, api.ErrRot
	}
	return c, api.OK
}

// refData returns the bytes of the record at the start of an area, and what is behind it; nil if the record is damaged.
func refData(area [][]byte) (b []byte, rest [][]byte) {
	s := area[0]
	n := int(binary.BigEndian.Uint32(s[9:13]))
	if n > 262144 {
		return nil, nil
	}
	further := 0
	for 239+255*further < n {
		further++
	}
	if 1+further > len(area) {
		return nil, nil
	}
	b = bytes.Clone(s[17:])
	for _, c := range area[1 : 1+further] {
		if c[0] != 67 {
			return nil, nil
		}
		b = append(b, c[1:]...)
	}
	for _, x := range b[n:] {
		if x != 0 {
			return nil, nil
		}
	}
	sum := sha256.Sum256(append(bytes.Clone(s[1:13]), b[:n]...))
	if !bytes.Equal(sum[:4], s[13:17]) {
		return nil, nil
	}
	return b[:n], area[1+further:]
}

// must checks that there is no error.
func must(t *testing.T, e api.Errno) {
	t.Helper()
	if e != api.OK {
		t.Fatalf("error %d", e)
	}
}

func mustDisk(t *testing.T, sectors int) *disk.Disk {
	t.Helper()
	d, e := disk.New(sectors)
	must(t, e)
	return d
}

func mustLoad(t *testing.T, image []byte) *disk.Disk {
	t.Helper()
	d, e := disk.Load(image)
	must(t, e)
	return d
}

func mustFormat(t *testing.T, d *disk.Disk) *Journal {
	t.Helper()
	j, e := Format(d)
	must(t, e)
	return j
}

func mustOpen(t *testing.T, d *disk.Disk) *Journal {
	t.Helper()
	j, e := Open(d)
	must(t, e)
	return j
}

// contentsOf returns what a journal tells of its contents.
func contentsOf(j *Journal) contents {
	c := contents{j.Generation(), [][]byte{j.Snapshot()}}
	for _, b := range j.All() {
		c.records = append(c.records, b)
	}
	return c
}

// tells checks everything that a journal on a disk with that many sectors tells, if it contains c.
func tells(t *testing.T, what string, j *Journal, sectors int, c contents, on bool) {
	t.Helper()
	if got := contentsOf(j); !got.equal(c) {
		t.Fatalf("%s: generation %d with %d records, and not %d with %d, or other bytes", what, got.generation, len(got.records), c.generation, len(c.records))
	}
	last := 0
	for number := range j.All() {
		if number != last+1 {
			t.Fatalf("%s: number %d follows %d", what, number, last)
		}
		last = number
	}
	_, size := refArea(sectors, c.generation)
	free := size - c.used()
	if j.Len() != len(c.records)-1 || j.Free() != free || j.On() != on {
		t.Fatalf("%s: %d records, %d free, on %v, and not %d, %d, %v", what, j.Len(), j.Free(), j.On(), len(c.records)-1, free, on)
	}
	for _, n := range []int{-1, 0, 239, 240, 494, 495, 239 + 255*(free-1), 240 + 255*(free-1), 262144, 262145} {
		may := on && n >= 0 && free > 0 && n <= min(239+255*(free-1), 262144)
		if j.Room(n) != may {
			t.Fatalf("%s: Room of %d with %d free is %v", what, n, free, !may)
		}
	}
}

// sameDisk checks that a and b are in the same state, but for a fuse.
func sameDisk(t *testing.T, what string, a, b *disk.Disk) {
	t.Helper()
	if a.On() != b.On() || a.Waits() != b.Waits() || a.Ops() != b.Ops() || !bytes.Equal(a.Image(), b.Image()) {
		t.Fatalf("%s: on %v, %d waiting, %d operations, and not %v, %d, %d, or another image", what, a.On(), a.Waits(), a.Ops(), b.On(), b.Waits(), b.Ops())
	}
	for i := range a.Waits() { // each write alone tells its sector and its bytes
		pick := make([]bool, i+1)
		pick[i] = true
		x, y := a.Clone(), b.Clone()
		x.Crash(pick)
		y.Crash(pick)
		if !bytes.Equal(x.Image(), y.Image()) {
			t.Fatalf("%s: another pending write %d", what, i)
		}
	}
}

// some returns n drawn bytes.
func some(draw *rand.Rand, n int) []byte {
	b := make([]byte, n)
	draw.Read(b)
	return b
}

// lengths are the numbers of bytes around which a record takes one sector more.
func lengths() []int { return []int{0, 1, 238, 239, 240, 493, 494, 495, 749, 750, 1000} }
