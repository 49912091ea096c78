package keccak

import (
	"math/bits"
	"math/rand"
	"testing"
)

// literal is Permute as the chapter has it, step by step, without tables.
func literal(a [25]uint64) [25]uint64 {
	at := func(x, y int) int { return 5*(y%5) + x%5 }
	var turns [25]int
	for x, y, t := 1, 0, 0; t < 24; t++ {
		turns[at(x, y)] = (t + 1) * (t + 2) / 2 % 64
		x, y = y, (2*x+3*y)%5
	}
	for i := range 24 {
		var b, c [25]uint64
		for x := range 5 {
			for y := range 5 {
				c[x] ^= a[at(x, y)]
			}
		}
		for x := range 5 {
			for y := range 5 {
				lane := a[at(x, y)] ^ c[(x+4)%5] ^ bits.RotateLeft64(c[(x+1)%5], 1)
				b[at(y, 2*x+3*y)] = bits.RotateLeft64(lane, turns[at(x, y)])
			}
		}
		for x := range 5 {
			for y := range 5 {
				a[at(x, y)] = b[at(x, y)] ^ ^b[at(x+1, y)]&b[at(x+2, y)]
			}
		}
		a[0] ^= literalConstant(i)
	}
	return a
}

// literalConstant is the round constant of round i.
func literalConstant(i int) uint64 {
	var constant uint64
	for j := range 7 {
		if literalBit(j + 7*i) {
			constant |= 1 << (1<<j - 1)
		}
	}
	return constant
}

// literalBit is rc(t).
func literalBit(t int) bool {
	eight := []bool{true, false, false, false, false, false, false, false}
	for range t % 255 {
		nine := append([]bool{false}, eight...)
		for _, j := range []int{0, 4, 5, 6} {
			nine[j] = nine[j] != nine[8]
		}
		eight = nine[:8]
	}
	return eight[0]
}

// P3.1: the first states from the zero state on, as the designers of Keccak tell them.
func TestPermuteKnown(t *testing.T) {
	want := [25]uint64{
		0xF1258F7940E1DDE7, 0x84D5CCF933C0478A, 0xD598261EA65AA9EE, 0xBD1547306F80494D, 0x8B284E056253D057,
		0xFF97A42D7F8E6FD4, 0x90FEE5A0A44647C4, 0x8C5BDA0CD6192E76, 0xAD30A6F71B19059C, 0x30935AB7D08FFC64,
		0xEB5AA93F2317D635, 0xA9A6E6260D712103, 0x81A57C16DBCF555F, 0x43B831CD0347C826, 0x01F22F1A11A5569F,
		0x05E5635A21D9AE61, 0x64BEFEF28CC970F2, 0x613670957BC46611, 0xB87C5A554FD00ECB, 0x8C3EE88A1CCF32C8,
		0x940C7922AE3A2614, 0x1841F924A2C509E4, 0x16F53526E70465C2, 0x75F644E97F30A13B, 0xEAF1FF7B5CECA249,
	}
	s := Permute([25]uint64{})
	if s != want {
		t.Errorf("of the zero state: %x", s)
	}
	if s = Permute(s); s[0] != 0x2D5C954DF96ECB3C || s[24] != 0x20D06CD26A8FBF5C {
		t.Errorf("twice: %x", s)
	}
}

// P3.1: the constants and steps of the chapter, for states with a single bit or a single missing one, and for any state.
func TestPermute(t *testing.T) {
	states := [][25]uint64{{}}
	for lane := range 25 {
		for bit := range 64 {
			var s [25]uint64
			s[lane] = 1 << bit
			states = append(states, s, complement(s))
		}
	}
	draw := rand.New(rand.NewSource(1))
	for range 500 {
		var s [25]uint64
		for i := range s {
			s[i] = draw.Uint64()
		}
		states = append(states, s)
	}
	for _, s := range states {
		if got, want := Permute(s), literal(s); got != want {
			t.Fatalf("Permute(%x): %x, and not %x", s, got, want)
		}
	}
}

func complement(s [25]uint64) [25]uint64 {
	for i := range s {
		s[i] = ^s[i]
	}
	return s
}

// P3.1: no two states become the same.
func TestPermuteIsOneToOne(t *testing.T) {
	from := map[[25]uint64]uint64{}
	for i := range uint64(1000) {
		s := Permute([25]uint64{7: i})
		if j, ok := from[s]; ok {
			t.Fatalf("%d and %d become the same", i, j)
		}
		from[s] = i
	}
}

// P3.1, R3, R4: Permute takes a value, and the same one has the same result.
func TestPermuteKeepsArgument(t *testing.T) {
	s := [25]uint64{1, 2, 24: 3}
	first := Permute(s)
	if s != [25]uint64{1, 2, 24: 3} || Permute(s) != first {
		t.Errorf("%x", s)
	}
}
