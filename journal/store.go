package journal

import (
	"bytes"

	"livery/api"
	"livery/disk"
)

// newest returns the greatest generation that has a header on a disk.
func newest(d *disk.Disk) (uint32, api.Errno) {
	var greatest uint32
	for i := range sides {
		s, e := d.Read(i)
		if e != api.OK {
			return 0, e
		}
		if g := generationOf(s, d.Sectors()); side(g) == i {
			greatest = max(greatest, g)
		}
	}
	if greatest == 0 {
		return 0, api.ErrJournal
	}
	return greatest, api.OK
}

// erase writes zero bytes to all sectors. A disk that was not created by its package has none, and Sync tells that.
func erase(d *disk.Disk) api.Errno {
	for i := range d.Sectors() {
		if e := d.Write(i, make([]byte, api.Sector)); e != api.OK {
			return e
		}
	}
	return d.Sync()
}

// flush writes a sector, and everything that was written before it.
func flush(d *disk.Disk, i int, s []byte) api.Errno {
	if e := d.Write(i, s); e != api.OK {
		return e
	}
	return d.Sync()
}

// size returns the number of sectors of an area.
func (j *Journal) size() int { return (j.disk.Sectors() - sides) / sides }

// place returns the sector that is i sectors behind the used ones of the area.
func (j *Journal) place(i int) int {
	return sides + side(j.generation)*j.size() + j.used + i
}

// write writes a record behind the used sectors. Its first sector, without which it is not there, comes last.
func (j *Journal) write(b []byte) api.Errno {
	var first []byte
	for i, s := range encode(j.generation, len(j.kept), b) {
		if i == 0 {
			first = s
		} else if e := j.disk.Write(j.place(i), s); e != api.OK {
			return e
		}
	}
	if Sectors(len(b)) > 1 {
		if e := j.disk.Sync(); e != api.OK {
			return e
		}
	}
	return flush(j.disk, j.place(0), first)
}

// load keeps all records of the generation that are on the disk.
func (j *Journal) load() api.Errno {
scan:
	for {
		b, e := j.read()
		switch e {
		case api.OK:
			j.keep(b)
		case api.ErrNone:
			break scan
		default:
			return e
		}
	}
	if len(j.kept) == 0 {
		return api.ErrRot
	}
	return api.OK
}

// read returns the record with the next number, which begins behind the used sectors; ErrNone if there is none.
func (j *Journal) read() ([]byte, api.Errno) {
	if j.Free() == 0 {
		return nil, api.ErrNone
	}
	sectors, e := j.sectors(1)
	if e != api.OK {
		return nil, e
	}
	if !bytes.HasPrefix(sectors[0], start(j.generation, len(j.kept))) {
		return nil, api.ErrNone
	}
	n := intOf(sectors[0][sizeAt:])
	if n > api.MaxRecord || Sectors(int(n)) > j.Free() {
		return nil, api.ErrRot
	}
	if sectors, e = j.sectors(Sectors(int(n))); e != api.OK {
		return nil, e
	}
	b := decode(sectors, int(n))
	// Marks, padding and checksum are right if the same bytes would be written in the same way.
	for i, s := range encode(j.generation, len(j.kept), b) {
		if !bytes.Equal(s, sectors[i]) {
			return nil, api.ErrRot
		}
	}
	return b, api.OK
}

// sectors returns the next n sectors behind the used ones.
func (j *Journal) sectors(n int) ([][]byte, api.Errno) {
	var l [][]byte
	for i := range n {
		s, e := j.disk.Read(j.place(i))
		if e != api.OK {
			return nil, e
		}
		l = append(l, s)
	}
	return l, api.OK
}
