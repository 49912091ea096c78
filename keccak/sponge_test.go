package keccak

import (
	"bytes"
	"crypto/sha3"
	"encoding/hex"
	"math"
	"math/rand"
	"slices"
	"strings"
	"testing"

	"livery/api"
)

// function is an extendable output of this package, with the library's and with its rate.
type function struct {
	bits  int
	rate  int
	start func(parts ...[]byte) *Xof
	sum   func(b []byte, n int) []byte
}

func functions() []function {
	return []function{
		{128, 168, Shake128, sha3.SumSHAKE128},
		{256, 136, Shake256, sha3.SumSHAKE256},
	}
}

// drawn returns size bytes.
func drawn(draw *rand.Rand, size int) []byte {
	b := make([]byte, size)
	draw.Read(b)
	return b
}

// split cuts b into parts, some of which are empty.
func split(draw *rand.Rand, b []byte) [][]byte {
	var parts [][]byte
	for len(b) > 0 {
		n := draw.Intn(min(len(b), 200) + 1)
		parts = append(parts, b[:n], nil)
		b = b[n:]
	}
	return parts
}

// mustRead reads n bytes, and checks that they are counted.
func mustRead(t *testing.T, x *Xof, n int) []byte {
	t.Helper()
	before := x.Count()
	b, e := x.Read(n)
	if e != api.OK || len(b) != n || x.Count() != before+n {
		t.Fatalf("Read(%d) after %d bytes: %d bytes, error %d, then %d", n, before, len(b), e, x.Count())
	}
	return b
}

// P3.2: the hashes that FIPS 202's examples and others tell.
func TestHashesKnown(t *testing.T) {
	for _, c := range []struct{ text, sum256, sum512 string }{
		{
			"",
			"a7ffc6f8bf1ed76651c14756a061d662f580ff4de43b49fa82d80a4b80f8434a",
			"a69f73cca23a9ac5c8b567dc185a756e97c982164fe25859e0d1dcc1475c80a615b2123af1f5f94c11e3e9402c3ac558f500199d95b6d3e301758586281dcd26",
		},
		{
			"abc",
			"3a985da74fe225b2045c172d6bd390bd855f086e3e9d525b46bfe24511431532",
			"b751850b1a57168a5693cd924b6b096e08f621827444f70d884f5d0240d2712e10e116e9192af3c91a7ec57647e3934057340b4cf408d5a56592f8274eec53f0",
		},
		{
			"abcdbcdecdefdefgefghfghighijhijkijkljklmklmnlmnomnopnopq",
			"41c0dba2a9d6240849100376a8235e2c82e1b9998a999e21db32dd97496d3376",
			"04a371e84ecfb5b8b77cb48610fca8182dd457ce6f326a0fd3d7ec2f1e91636dee691fbe0c985302ba1b0d8dc78c086346b533b49c030d99a27daf1139d6e75e",
		},
		{
			strings.Repeat("\xa3", 200),
			"79f38adec5c20307a98ef76e8324afbfd46cfd81b22e3973c65fa1bd9de31787",
			"e76dfad22084a8b1467fcf2ffa58361bec7628edf5f3fdc0e4805dc48caeeca81b7c13c30adf52a3659584739a2df46be589c51ca1a4a8416df6545a1ce8ba00",
		},
	} {
		s, u := Sha3256([]byte(c.text)), Sha3512([]byte(c.text))
		if hex.EncodeToString(s[:]) != c.sum256 || hex.EncodeToString(u[:]) != c.sum512 {
			t.Errorf("%q: %x %x", c.text, s, u)
		}
	}
}

// P3.2: every length around the ends of the first blocks, of which the padding hangs, and a long one.
func TestHashesOfEachLength(t *testing.T) {
	draw := rand.New(rand.NewSource(2))
	sizes := []int{10000, 1 << 20}
	for size := range 600 {
		sizes = append(sizes, size)
	}
	for _, size := range sizes {
		b := drawn(draw, size)
		if s, want := Sha3256(b), sha3.Sum256(b); s != want {
			t.Errorf("%d bytes: %x, and not %x", size, s, want)
		}
		if s, want := Sha3512(b), sha3.Sum512(b); s != want {
			t.Errorf("%d bytes: %x, and not %x", size, s, want)
		}
	}
}

// P3.2, P3.5: parts are concatenated in their order, and no parts are no bytes.
func TestHashesOfParts(t *testing.T) {
	want256, want512 := sha3.Sum256([]byte("abc")), sha3.Sum512([]byte("abc"))
	for _, parts := range [][][]byte{
		{[]byte("abc")},
		{[]byte("a"), []byte("bc")},
		{nil, []byte("ab"), {}, []byte("c"), nil},
		{[]byte("a"), []byte("b"), []byte("c")},
	} {
		if Sha3256(parts...) != want256 || Sha3512(parts...) != want512 {
			t.Errorf("%q", parts)
		}
	}
	if Sha3256([]byte("bc"), []byte("a")) == want256 || Sha3512([]byte("bc"), []byte("a")) == want512 {
		t.Error("the order does not matter")
	}
	if Sha3256() != sha3.Sum256(nil) || Sha3256(nil, []byte{}) != Sha3256() || Sha3512() != sha3.Sum512(nil) || Sha3512(nil, []byte{}) != Sha3512() {
		t.Error("no parts are not no bytes")
	}
}

// P3.5: however the input is split, all hashes and outputs are the same.
func TestSplitting(t *testing.T) {
	draw := rand.New(rand.NewSource(3))
	for range 200 {
		b := drawn(draw, draw.Intn(1500))
		parts := split(draw, b)
		if Sha3256(parts...) != sha3.Sum256(b) || Sha3512(parts...) != sha3.Sum512(b) {
			t.Fatalf("%d parts of %x", len(parts), b)
		}
		for _, f := range functions() {
			want := f.sum(b, 400)
			if got, e := Shake(f.bits, 400, parts...); e != api.OK || !bytes.Equal(got, want) {
				t.Fatalf("Shake(%d) of %d parts of %x: %x %d", f.bits, len(parts), b, got, e)
			}
			if got := mustRead(t, f.start(parts...), 400); !bytes.Equal(got, want) {
				t.Fatalf("Shake%d of %d parts of %x: %x", f.bits, len(parts), b, got)
			}
		}
	}
}

// P3.3: the outputs that FIPS 202's examples tell.
func TestShakeKnown(t *testing.T) {
	for _, c := range []struct {
		bits       int
		text, want string
	}{
		{128, "", "7f9c2ba4e88f827d616045507605853ed73b8093f6efbc88eb1a6eacfa66ef26"},
		{256, "", "46b9dd2b0ba88d13233b3feb743eeb243fcd52ea62b81b82b50c27646ed5762fd75dc4ddd8c0f200cb05019d67b592f6fc821c49479ab48640292eacb3b7c4be"},
		{128, "abc", "5881092dd818bf5cf8a3ddb793fbcba74097d5c526a6d35f97b83351940f2cc8"},
		{256, "abc", "483366601360a8771c6863080cc4114d8db44530f8f1e1ee4f94ea37e78b5739"},
		{128, strings.Repeat("\xa3", 200), "131ab8d2b594946b9c81333f9bb6e0ce75c3b93104fa3469d3917457385da037"},
		{256, strings.Repeat("\xa3", 200), "cd8a920ed141aa0407a22d59288652e9d9f1a7ee0c1e7c1ca699424da84a904d"},
	} {
		if b, e := Shake(c.bits, len(c.want)/2, []byte(c.text)); e != api.OK || hex.EncodeToString(b) != c.want {
			t.Errorf("Shake(%d) of %q: %x %d", c.bits, c.text, b, e)
		}
	}
}

// P3.3: every length of the input, and of the output, around the ends of the first blocks.
func TestShakeOfEachLength(t *testing.T) {
	draw := rand.New(rand.NewSource(4))
	for _, f := range functions() {
		for size := range 600 {
			b := drawn(draw, size)
			if got, e := Shake(f.bits, 32, b); e != api.OK || !bytes.Equal(got, f.sum(b, 32)) {
				t.Errorf("Shake(%d) of %d bytes: %x %d", f.bits, size, got, e)
			}
			if got, e := Shake(f.bits, size, b[:size/2]); e != api.OK || !bytes.Equal(got, f.sum(b[:size/2], size)) {
				t.Errorf("%d bytes of Shake(%d): %x %d", size, f.bits, got, e)
			}
		}
	}
}

// P3.3: any number of bits but two is refused, then a negative length, then a long one.
func TestShakeErrors(t *testing.T) {
	lengths := []int{math.MinInt, -1, 0, 1, 32, api.MaxSqueeze, api.MaxSqueeze + 1, math.MaxInt}
	for _, bits := range []int{math.MinInt, -256, -128, -1, 0, 1, 127, 129, 168, 224, 255, 257, 384, 512, math.MaxInt} {
		for _, n := range lengths {
			if b, e := Shake(bits, n, []byte("abc")); e != api.ErrArg || b != nil {
				t.Errorf("Shake(%d, %d): %d bytes, error %d", bits, n, len(b), e)
			}
		}
	}
	for _, f := range functions() {
		for _, c := range []struct {
			n    int
			want api.Errno
		}{
			{math.MinInt, api.ErrArg},
			{-api.MaxSqueeze, api.ErrArg},
			{-1, api.ErrArg},
			{api.MaxSqueeze + 1, api.ErrLong},
			{math.MaxInt, api.ErrLong},
		} {
			if b, e := Shake(f.bits, c.n, []byte("abc")); e != c.want || b != nil {
				t.Errorf("Shake(%d, %d): %d bytes, error %d", f.bits, c.n, len(b), e)
			}
		}
		if b, e := Shake(f.bits, 0, []byte("abc")); e != api.OK || len(b) != 0 {
			t.Errorf("Shake(%d, 0): %x %d", f.bits, b, e)
		}
		if b, e := Shake(f.bits, api.MaxSqueeze, []byte("abc")); e != api.OK || !bytes.Equal(b, f.sum([]byte("abc"), api.MaxSqueeze)) {
			t.Errorf("the longest output of Shake(%d): %d bytes, error %d", f.bits, len(b), e)
		}
	}
}

// P3.4, P3.5: in whatever pieces an output is read, it is the same, and each byte is counted.
func TestPieces(t *testing.T) {
	draw := rand.New(rand.NewSource(5))
	for _, f := range functions() {
		for range 200 {
			b := drawn(draw, draw.Intn(400))
			whole := f.sum(b, 2000)
			x := f.start(b)
			var got []byte
			for len(got) < 1500 {
				got = append(got, mustRead(t, x, draw.Intn(500))...)
				if !bytes.HasPrefix(whole, got) || x.Count() != len(got) {
					t.Fatalf("Shake%d of %x: the first %d bytes, %d counted", f.bits, b, len(got), x.Count())
				}
			}
		}
	}
}

// P3.4: pieces of one byte, and pieces that end where blocks end.
func TestPiecesAtTheEndsOfBlocks(t *testing.T) {
	for _, f := range functions() {
		for _, size := range []int{1, 7, 8, 9, f.rate - 1, f.rate, f.rate + 1, 2 * f.rate} {
			whole := f.sum([]byte("abc"), 10*size)
			x := f.start([]byte("abc"))
			for at := 0; at < len(whole); at += size {
				if b := mustRead(t, x, size); !bytes.Equal(b, whole[at:at+size]) {
					t.Fatalf("Shake%d: %d bytes from %d on: %x", f.bits, size, at, b)
				}
				mustRead(t, x, 0) // which takes nothing
			}
		}
	}
}

// P3.4: a call is limited, and the whole output is not.
func TestReadBeyondTheLimitOfACall(t *testing.T) {
	for _, f := range functions() {
		x := f.start()
		got := slices.Concat(mustRead(t, x, api.MaxSqueeze), mustRead(t, x, api.MaxSqueeze), mustRead(t, x, 100))
		if !bytes.Equal(got, f.sum(nil, len(got))) {
			t.Errorf("Shake%d", f.bits)
		}
	}
}

// P3.4, R2: a length that is refused, and a reader that goes on as if nothing had been asked.
func TestReadErrors(t *testing.T) {
	for _, f := range functions() {
		for _, before := range []int{0, 1, f.rate, 200} {
			x := f.start([]byte("abc"))
			mustRead(t, x, before)
			for _, c := range []struct {
				n    int
				want api.Errno
			}{
				{math.MinInt, api.ErrArg},
				{-1, api.ErrArg},
				{api.MaxSqueeze + 1, api.ErrLong},
				{math.MaxInt, api.ErrLong},
			} {
				if b, e := x.Read(c.n); e != c.want || b != nil || x.Count() != before {
					t.Errorf("Read(%d) after %d bytes: %d bytes, error %d, %d counted", c.n, before, len(b), e, x.Count())
				}
			}
			if b := mustRead(t, x, 50); !bytes.Equal(b, f.sum([]byte("abc"), before+50)[before:]) {
				t.Errorf("Shake%d after an error: %x", f.bits, b)
			}
		}
	}
}

// P3.4: a copy and what it was made of go their own ways, from each place in a block on.
func TestClone(t *testing.T) {
	for _, f := range functions() {
		whole := f.sum([]byte("abc"), 1000)
		for before := range 400 {
			x := f.start([]byte("abc"))
			mustRead(t, x, before)
			c := x.Clone()
			if c == nil || c == x || c.Count() != before {
				t.Fatalf("a clone after %d bytes", before)
			}
			if b := mustRead(t, x, 200); !bytes.Equal(b, whole[before:before+200]) {
				t.Fatalf("the reader after %d bytes: %x", before, b)
			}
			if b := mustRead(t, c, 100); !bytes.Equal(b, whole[before:before+100]) {
				t.Fatalf("the clone after %d bytes: %x", before, b)
			}
			d := c.Clone()
			if b := mustRead(t, d, 150); !bytes.Equal(b, whole[before+100:before+250]) || c.Count() != before+100 || x.Count() != before+200 {
				t.Fatalf("the clone of a clone after %d bytes: %x", before, b)
			}
		}
	}
}

// P3.4: each call returns a reader of its own, with nothing read.
func TestReadersAreNew(t *testing.T) {
	for _, f := range functions() {
		x, y := f.start(), f.start()
		mustRead(t, x, 10)
		if x == y || y.Count() != 0 || !bytes.Equal(mustRead(t, y, 10), f.sum(nil, 10)) {
			t.Errorf("Shake%d returns what was there", f.bits)
		}
	}
}

// P3.4, R5: a reader that this package did not make; the length does not matter then.
func TestXofNotMade(t *testing.T) {
	for _, x := range []*Xof{nil, {}, new(Xof)} {
		for range 2 { // a Read that is refused makes none
			for _, n := range []int{math.MinInt, -1, 0, 1, api.MaxSqueeze, api.MaxSqueeze + 1, math.MaxInt} {
				if b, e := x.Read(n); e != api.ErrMade || b != nil {
					t.Errorf("Read(%d): %x %d", n, b, e)
				}
			}
			if n := x.Count(); n != 0 {
				t.Error(n)
			}
			if c := x.Clone(); c != nil {
				t.Error(c)
			}
		}
	}
}

// P3.6: a shorter output is a prefix of a longer one.
func TestPrefixes(t *testing.T) {
	for _, f := range functions() {
		long, e := Shake(f.bits, 700, []byte("abc"))
		if e != api.OK {
			t.Fatal(e)
		}
		for n := range 700 {
			if b, e := Shake(f.bits, n, []byte("abc")); e != api.OK || len(b) != n || !bytes.HasPrefix(long, b) {
				t.Errorf("%d bytes of Shake(%d): %x %d", n, f.bits, b, e)
			}
		}
	}
}

// P3.7: the hash of fewer than 136 bytes is in the state after a single Permute.
func TestSponge(t *testing.T) {
	draw := rand.New(rand.NewSource(6))
	for size := range 136 {
		b := drawn(draw, size)
		block := append(slices.Clone(b), 6)
		block = append(block, make([]byte, 136-len(block))...)
		block[135] ^= 128
		var s [25]uint64
		for i, x := range block {
			s[i/8] |= uint64(x) << (i % 8 * 8)
		}
		s = Permute(s)
		sum := Sha3256(b)
		for i, x := range sum {
			if x != byte(s[i/8]>>(i%8*8)) {
				t.Fatalf("%d bytes: %x", size, sum)
			}
		}
	}
}

// R3: arguments are as they were, also beyond their lengths, and neither they nor results are kept.
func TestMemory(t *testing.T) {
	for _, f := range functions() {
		whole := bytes.Repeat([]byte("x"), 400)
		parts := [][]byte{whole[:100], whole[100:300]}
		want := f.sum(whole[:300], 300)
		x := f.start(parts...)
		Shake(f.bits, 100, parts...)
		Sha3256(parts...)
		Sha3512(parts...)
		if !bytes.Equal(whole, bytes.Repeat([]byte("x"), 400)) || len(parts[0]) != 100 || len(parts[1]) != 200 {
			t.Error("an argument was changed")
		}
		clear(whole)
		parts[0], parts[1] = nil, nil
		c := x.Clone()
		first := mustRead(t, x, 150)
		if !bytes.Equal(first, want[:150]) {
			t.Error("an argument is kept")
		}
		clear(first[:cap(first)])
		if !bytes.Equal(mustRead(t, x, 150), want[150:]) || !bytes.Equal(mustRead(t, c, 300), want) {
			t.Error("a result is kept")
		}
	}
}
