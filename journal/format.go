package journal

import (
	"bytes"
	"iter"

	"livery/api"
	"livery/octet"
	"livery/sha2"
)

// sides is how many headers and areas a disk has; generations take turns with them.
const sides = 2

// The first bytes of sectors.
const (
	headerMark = 'H'
	firstMark  = 'F'
	nextMark   = 'C'
)

const (
	intLen = 4 // bytes of an integer
	sumLen = 4 // bytes of a hash that are written
)

// Where the first sector of a record has what.
const (
	sizeAt = 1 + 2*intLen
	sumAt  = sizeAt + intLen
	dataAt = sumAt + sumLen
)

// Sectors returns the number of sectors of a record of n bytes.
func Sectors(n int) int {
	if n < 0 || n > api.MaxRecord {
		return 0
	}
	further := max(n-api.FirstRoom, 0)
	return 1 + (further+api.NextRoom-1)/api.NextRoom
}

// side returns which of the headers, and which of the areas, a generation has.
func side(generation uint32) int { return int(generation % sides) }

// header returns the header of a generation on a disk with that many sectors.
func header(generation uint32, sectors int) []byte {
	fields := octet.Join(octet.U32(generation), octet.U16(uint16(sectors)))
	sum := sha2.Sum256(fields)
	s := make([]byte, api.Sector)
	copy(s, octet.Join([]byte{headerMark}, fields, sum[:sumLen]))
	return s
}

// generationOf returns the generation whose header s is on a disk with that many sectors; 0 if it is no header.
func generationOf(s []byte, sectors int) uint32 {
	generation := uint32(intOf(s[1:]))
	if !bytes.Equal(s, header(generation, sectors)) {
		return 0
	}
	return generation
}

// start returns the first bytes of a record, which tell its generation and its number.
func start(generation uint32, number int) []byte {
	return octet.Join([]byte{firstMark}, octet.U32(generation), octet.U32(uint32(number)))
}

// encode iterates over the sectors of a record, each with its place among them.
func encode(generation uint32, number int, b []byte) iter.Seq2[int, []byte] {
	fields := octet.Join(start(generation, number), octet.U32(uint32(len(b))))
	sum := sha2.Sum256(fields[1:], b)
	return func(yield func(int, []byte) bool) {
		ahead, rest := octet.Join(fields, sum[:sumLen]), b
		for i := range Sectors(len(b)) {
			s := make([]byte, api.Sector)
			n := copy(s, ahead)
			rest = rest[copy(s[n:], rest):]
			if !yield(i, s) {
				return
			}
			ahead = []byte{nextMark}
		}
	}
}

// decode returns the n bytes of the record that has these sectors.
func decode(sectors [][]byte, n int) []byte {
	parts := [][]byte{sectors[0][dataAt:]}
	for _, s := range sectors[1:] {
		parts = append(parts, s[1:])
	}
	return octet.Join(parts...)[:n]
}

// intOf returns the integer at the start of b.
func intOf(b []byte) uint64 {
	n, _ := octet.BigOf(b[:intLen])
	return n
}
