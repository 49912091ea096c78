package sha2

import (
	"bytes"
	"crypto/sha256"
	"encoding"
	"encoding/binary"
	"encoding/hex"
	"math/rand"
	"slices"
	"strings"
	"testing"

	"livery/api"
)

// start is the state before the first block.
var start = [8]uint32{0x6a09e667, 0xbb67ae85, 0x3c6ef372, 0xa54ff53a, 0x510e527f, 0x9b05688c, 0x1f83d9ab, 0x5be0cd19}

// drawn returns size bytes.
func drawn(draw *rand.Rand, size int) []byte {
	b := make([]byte, size)
	draw.Read(b)
	return b
}

// split cuts b into parts, some of which are empty.
func split(draw *rand.Rand, b []byte) [][]byte {
	var parts [][]byte
	for len(b) > 0 {
		n := draw.Intn(min(len(b), 150) + 1)
		parts = append(parts, b[:n], nil)
		b = b[n:]
	}
	return parts
}

// libraryCompress is Compress by the library, whose hash is set to a state and read after a block.
func libraryCompress(t *testing.T, s [8]uint32, b [64]byte) [8]uint32 {
	t.Helper()
	kept := []byte("sha\x03")
	for _, word := range s {
		kept = binary.BigEndian.AppendUint32(kept, word)
	}
	kept = append(kept, make([]byte, 64+8)...)
	h := sha256.New()
	if err := h.(encoding.BinaryUnmarshaler).UnmarshalBinary(kept); err != nil {
		t.Fatal(err)
	}
	h.Write(b[:])
	kept, err := h.(encoding.BinaryMarshaler).MarshalBinary()
	if err != nil {
		t.Fatal(err)
	}
	for i := range s {
		s[i] = binary.BigEndian.Uint32(kept[4+4*i:])
	}
	return s
}

// P2.1: the state after the only block of abc, as FIPS 180-4 has it.
func TestCompressOfAbc(t *testing.T) {
	block := [64]byte{'a', 'b', 'c', 128, 63: 24}
	want := [8]uint32{0xba7816bf, 0x8f01cfea, 0x414140de, 0x5dae2223, 0xb00361a3, 0x96177a9c, 0xb410ff61, 0xf20015ad}
	if s := Compress(start, block); s != want {
		t.Errorf("%08x", s)
	}
}

// P2.1: any state and any block.
func TestCompress(t *testing.T) {
	draw := rand.New(rand.NewSource(1))
	var s [8]uint32
	var b [64]byte
	for i := range 500 {
		got := Compress(s, b)
		if want := libraryCompress(t, s, b); got != want {
			t.Fatalf("Compress(%08x, %x): %08x, and not %08x", s, b, got, want)
		}
		switch i % 3 {
		case 0:
			s = got
		case 1:
			for j := range s {
				s[j] = draw.Uint32()
			}
		}
		draw.Read(b[:])
	}
	for i := range s {
		s[i] = 0xffffffff
	}
	for i := range b {
		b[i] = 0xff
	}
	if got, want := Compress(s, b), libraryCompress(t, s, b); got != want {
		t.Errorf("of ones: %08x, and not %08x", got, want)
	}
}

// P2.1: what FIPS 180-4 and others tell of some texts.
func TestSum256Known(t *testing.T) {
	for _, c := range []struct{ text, want string }{
		{"", "e3b0c44298fc1c149afbf4c8996fb92427ae41e4649b934ca495991b7852b855"},
		{"abc", "ba7816bf8f01cfea414140de5dae2223b00361a396177a9cb410ff61f20015ad"},
		{"abcdbcdecdefdefgefghfghighijhijkijkljklmklmnlmnomnopnopq", "248d6a61d20638b8e5c026930c3e6039a33ce45964ff2167f6ecedd419db06c1"},
		{"abcdefghbcdefghicdefghijdefghijkefghijklfghijklmghijklmnhijklmnoijklmnopjklmnopqklmnopqrlmnopqrsmnopqrstnopqrstu", "cf5b16a778af8380036ce59e7b0492370b249b11e8f07a51afac45037afee9d1"},
		{strings.Repeat("a", 1000000), "cdc76e5c9914fb9281a1c7e284d73e67f1809a48a497200e046d39ccc7112cd0"},
	} {
		s, u := Sum256([]byte(c.text)), Sum192([]byte(c.text))
		if hex.EncodeToString(s[:]) != c.want || hex.EncodeToString(u[:]) != c.want[:48] {
			t.Errorf("%d bytes: %x %x", len(c.text), s, u)
		}
	}
}

// P2.1: every length around the ends of the first blocks, of which the padding hangs.
func TestSumOfEachLength(t *testing.T) {
	draw := rand.New(rand.NewSource(2))
	for size := range 400 {
		b := drawn(draw, size)
		want := sha256.Sum256(b)
		if s := Sum256(b); s != want {
			t.Errorf("%d bytes: %x, and not %x", size, s, want)
		}
		if u := Sum192(b); !bytes.Equal(u[:], want[:24]) {
			t.Errorf("%d bytes: %x, and not the first bytes of %x", size, u, want)
		}
	}
}

// P2.1: parts are concatenated in their order, and no parts are no bytes.
func TestSumOfParts(t *testing.T) {
	want := Sum256([]byte("abc"))
	for _, parts := range [][][]byte{
		{[]byte("abc")},
		{[]byte("a"), []byte("bc")},
		{nil, []byte("ab"), {}, []byte("c"), nil},
		{[]byte("a"), []byte("b"), []byte("c")},
	} {
		if s := Sum256(parts...); s != want {
			t.Errorf("%q: %x", parts, s)
		}
		if u := Sum192(parts...); !bytes.Equal(u[:], want[:24]) {
			t.Errorf("%q: %x", parts, u)
		}
	}
	if Sum256([]byte("bc"), []byte("a")) == want {
		t.Error("the order does not matter")
	}
	if Sum256() != sha256.Sum256(nil) || Sum256(nil) != Sum256() || Sum256([]byte{}, nil) != Sum256() || Sum192() != Sum192(nil) {
		t.Error("no parts are not no bytes")
	}
}

// P2.1: the number of bits has more than 32 bits.
func TestSumOfManyBytes(t *testing.T) {
	piece := []byte(strings.Repeat("0123456789abcdef", 1<<16))
	parts := slices.Repeat([][]byte{piece}, 1<<9)
	library, h := sha256.New(), New()
	for _, p := range parts {
		library.Write(p)
	}
	if e := h.Write(parts...); e != api.OK || h.Len() != 1<<29 {
		t.Error(e, h.Len())
	}
	if s := h.Sum(); !bytes.Equal(s[:], library.Sum(nil)) {
		t.Errorf("%x", s)
	}
}

// P2.2, P2.4: however a byte string is split, its hash is the same at each point, and Sum does not change it.
func TestHash(t *testing.T) {
	draw := rand.New(rand.NewSource(3))
	for range 200 {
		b := drawn(draw, draw.Intn(1000))
		parts := split(draw, b)
		if Sum256(parts...) != sha256.Sum256(b) {
			t.Fatalf("%d parts of %x", len(parts), b)
		}
		h := New()
		size := 0
		for len(parts) > 0 {
			n := 1 + draw.Intn(len(parts))
			if e := h.Write(parts[:n]...); e != api.OK {
				t.Fatal(e)
			}
			for _, p := range parts[:n] {
				size += len(p)
			}
			parts = parts[n:]
			want := sha256.Sum256(b[:size])
			if h.Len() != size || h.Sum() != want || h.Sum() != want || h.Len() != size {
				t.Fatalf("after %d of %d bytes: %d, %x", size, len(b), h.Len(), h.Sum())
			}
		}
		if size != len(b) {
			t.Fatal("a test that lost bytes")
		}
	}
}

// P2.2: a Hash without bytes, and one to which none are written.
func TestHashOfNothing(t *testing.T) {
	h := New()
	if h.Len() != 0 || h.Sum() != Sum256() {
		t.Error(h.Len(), h.Sum())
	}
	for _, e := range []api.Errno{h.Write(), h.Write(nil), h.Write([]byte{}, nil)} {
		if e != api.OK || h.Len() != 0 || h.Sum() != Sum256() {
			t.Error(e, h.Len(), h.Sum())
		}
	}
	if c := h.Clone(); c == nil || c.Len() != 0 || c.Sum() != Sum256() || c.Write([]byte("x")) != api.OK || h.Len() != 0 {
		t.Error("the clone of a Hash without bytes")
	}
	if New().Write([]byte("x")) != api.OK || New().Len() != 0 || New() == New() {
		t.Error("New returns what was there")
	}
}

// P2.2: a copy and what it was made of go their own ways, from each place in a block on.
func TestClone(t *testing.T) {
	draw := rand.New(rand.NewSource(4))
	for size := range 200 {
		b, first, second := drawn(draw, size), drawn(draw, draw.Intn(100)), drawn(draw, draw.Intn(100))
		h := New()
		h.Write(b)
		c := h.Clone()
		if c.Sum() != Sum256(b) || c.Len() != size {
			t.Fatalf("after %d bytes: %d", size, c.Len())
		}
		if e, f := h.Write(first), c.Write(second); e != api.OK || f != api.OK {
			t.Fatal(e, f)
		}
		if h.Sum() != Sum256(b, first) || h.Len() != size+len(first) {
			t.Fatalf("after %d bytes the clone changed the Hash", size)
		}
		if c.Sum() != Sum256(b, second) || c.Len() != size+len(second) {
			t.Fatalf("after %d bytes the Hash changed the clone", size)
		}
		d := c.Clone()
		if d == c || d.Sum() != c.Sum() || d.Len() != c.Len() {
			t.Fatalf("after %d bytes: a clone of a clone", size)
		}
	}
}

// P2.2, R5: a Hash that this package did not make.
func TestHashNotMade(t *testing.T) {
	for _, h := range []*Hash{nil, {}, new(Hash)} {
		for range 2 { // a Write that is refused makes none
			if e := h.Write(); e != api.ErrMade {
				t.Error(e)
			}
			if e := h.Write([]byte("abc"), nil); e != api.ErrMade {
				t.Error(e)
			}
			if s := h.Sum(); s != [32]byte{} {
				t.Error(s)
			}
			if n := h.Len(); n != 0 {
				t.Error(n)
			}
			if c := h.Clone(); c != nil {
				t.Error(c)
			}
		}
	}
}

// R3: arguments are neither changed nor kept.
func TestHashKeepsArguments(t *testing.T) {
	b := []byte(strings.Repeat("x", 100))
	parts := [][]byte{b[:70], b[70:]}
	h := New()
	h.Write(parts...)
	want := h.Sum()
	Sum256(parts...)
	Sum192(parts...)
	if string(b) != strings.Repeat("x", 100) || len(parts[0]) != 70 || len(parts[1]) != 30 {
		t.Error(b)
	}
	clear(b)
	parts[0], parts[1] = nil, nil
	if h.Sum() != want || h.Len() != 100 {
		t.Error("a Hash keeps an argument")
	}
	s := h.Sum()
	clear(s[:])
	if h.Sum() != want {
		t.Error("a Hash keeps its result")
	}
}

// P2.1, R3: Compress takes values.
func TestCompressKeepsArguments(t *testing.T) {
	s, b := start, [64]byte{1, 2, 3}
	first := Compress(s, b)
	if s != start || b != [64]byte{1, 2, 3} || Compress(s, b) != first {
		t.Error(s, b)
	}
}
