package lmots

import (
	"bytes"
	"crypto/sha256"
	"crypto/sha3"
	"encoding/binary"
	"encoding/hex"
	"math"
	"math/rand"
	"slices"
	"testing"

	"livery/api"
	"livery/param"
)

// sets are all parameter sets.
func sets(t *testing.T) []api.Ots {
	var l []api.Ots
	for code := range param.OtsCodes() {
		o, e := param.Ots(code)
		if e != api.OK {
			t.Fatal(code, e)
		}
		l = append(l, o)
	}
	if len(l) != 16 {
		t.Fatal(l)
	}
	return l
}

// notSets are values that differ from a set in a field.
func notSets(o api.Ots) []api.Ots {
	l := []api.Ots{{}}
	for _, change := range []func(o *api.Ots){
		func(o *api.Ots) { o.Code = 0 },
		func(o *api.Ots) { o.Code = o.Code%16 + 1 },
		func(o *api.Ots) { o.Code += 16 },
		func(o *api.Ots) { o.Code |= 1 << 31 },
		func(o *api.Ots) { o.Shake = !o.Shake },
		func(o *api.Ots) { o.N = 56 - o.N },
		func(o *api.Ots) { o.N = 0 },
		func(o *api.Ots) { o.W = 9 - o.W },
		func(o *api.Ots) { o.W = -1 },
		func(o *api.Ots) { o.P++ },
		func(o *api.Ots) { o.P = -1 },
		func(o *api.Ots) { o.LS++ },
		func(o *api.Ots) { o.LS = -1 },
	} {
		other := o
		change(&other)
		l = append(l, other)
	}
	return l
}

// The chapter, step by step, with the hashes of the standard library.

func refHash(o api.Ots, parts ...[]byte) []byte {
	all := bytes.Join(parts, nil)
	if o.Shake {
		return sha3.SumSHAKE256(all, o.N)
	}
	sum := sha256.Sum256(all)
	return sum[:o.N]
}

// refBits writes bytes as text of 0 and 1, most significant bit first.
func refBits(b []byte) string {
	var s []byte
	for _, x := range b {
		for bit := 7; bit >= 0; bit-- {
			s = append(s, '0'+x>>bit&1)
		}
	}
	return string(s)
}

// refSplit reads w of these at a time.
func refSplit(s string, w int) []int {
	var l []int
	for ; s != ""; s = s[w:] {
		d := 0
		for _, r := range s[:w] {
			d = 2*d + int(r-'0')
		}
		l = append(l, d)
	}
	return l
}

func refDigits(o api.Ots, sum []byte) []int {
	l := refSplit(refBits(sum), o.W)
	checksum := 0
	for _, d := range l {
		checksum += int(math.Pow(2, float64(o.W))) - 1 - d
	}
	checksum *= int(math.Pow(2, float64(o.LS)))
	tail := refSplit(refBits([]byte{byte(checksum / 256), byte(checksum % 256)}), o.W)
	for i := 0; len(l) < o.P; i++ {
		l = append(l, tail[i])
	}
	return l
}

func u32(n uint32) []byte { return binary.BigEndian.AppendUint32(nil, n) }
func u16(n int) []byte    { return binary.BigEndian.AppendUint16(nil, uint16(n)) }

func refChain(o api.Ots, id [16]byte, q uint32, i, from, to int, x []byte) []byte {
	for j := from; j < to; j++ {
		x = refHash(o, id[:], u32(q), u16(i), []byte{byte(j)}, x)
	}
	return x
}

func refSecret(o api.Ots, id [16]byte, q uint32, seed []byte, i int) []byte {
	return refHash(o, id[:], u32(q), u16(i), []byte{255}, seed)
}

func refRandom(o api.Ots, id [16]byte, q uint32, seed []byte) []byte {
	return refHash(o, id[:], u32(q), []byte{255, 253}, []byte{255}, seed)
}

func refPublic(o api.Ots, id [16]byte, q uint32, seed []byte) []byte {
	all := slices.Concat(id[:], u32(q), []byte{0x80, 0x80})
	for i := 0; i < o.P; i++ {
		all = append(all, refChain(o, id, q, i, 0, 1<<o.W-1, refSecret(o, id, q, seed, i))...)
	}
	return refHash(o, all)
}

func refSign(o api.Ots, id [16]byte, q uint32, seed, msg []byte) []byte {
	c := refRandom(o, id, q, seed)
	sig := slices.Concat([]byte{0, 0, 0, byte(o.Code)}, c)
	for i, d := range refDigits(o, refHash(o, id[:], u32(q), []byte{0x81, 0x81}, c, msg)) {
		sig = append(sig, refChain(o, id, q, i, 0, d, refSecret(o, id, q, seed, i))...)
	}
	return sig
}

func refCandidate(o api.Ots, id [16]byte, q uint32, msg, sig []byte) []byte {
	c := sig[4 : 4+o.N]
	all := slices.Concat(id[:], u32(q), []byte{0x80, 0x80})
	for i, d := range refDigits(o, refHash(o, id[:], u32(q), []byte{0x81, 0x81}, c, msg)) {
		y := sig[4+o.N+i*o.N : 4+o.N+i*o.N+o.N]
		all = append(all, refChain(o, id, q, i, d, 1<<o.W-1, y)...)
	}
	return refHash(o, all)
}

// some returns n bytes that are drawn.
func some(draw *rand.Rand, n int) []byte {
	b := make([]byte, n)
	draw.Read(b)
	return b
}

// someLeaf returns a leaf that is drawn: its I, q and seed.
func someLeaf(draw *rand.Rand, n int) (id [16]byte, q uint32, seed []byte) {
	draw.Read(id[:])
	return id, draw.Uint32(), some(draw, n)
}

// someDigit returns a digit that is drawn.
func someDigit(draw *rand.Rand, o api.Ots) int { return draw.Intn(1 << o.W) }

// P7.1: Hash is that of the concatenated parts, with N bytes.
func TestHash(t *testing.T) {
	draw := rand.New(rand.NewSource(71))
	for _, o := range sets(t) {
		for _, sizes := range [][]int{{}, {0}, {1}, {0, 0, 3}, {16, 4, 2, 1, 32}, {64, 64}, {135}, {136, 1}, {1000, 0, 9}} {
			var parts [][]byte
			for _, n := range sizes {
				parts = append(parts, some(draw, n))
			}
			want := refHash(o, parts...)
			if got := Hash(o, parts...); !bytes.Equal(got, want) || len(got) != o.N {
				t.Errorf("set %d, parts %v: %x, not %x", o.Code, sizes, got, want)
			}
			if got := Hash(o, bytes.Join(parts, nil)); !bytes.Equal(got, want) {
				t.Errorf("set %d, parts %v in one: %x, not %x", o.Code, sizes, got, want)
			}
		}
		if !bytes.Equal(Hash(o), Hash(o, nil, []byte{})) { // R6
			t.Errorf("set %d: nothing and empty parts differ", o.Code)
		}
	}
}

// The definitions: whatever is no set is answered with ErrCode, ahead of all other errors, and by Hash with nothing.
func TestNotSets(t *testing.T) {
	id, q, seed := [16]byte{1}, uint32(2), make([]byte, 32)
	for _, o := range sets(t) {
		sig := refSign(o, id, q, seed[:o.N], nil)
		for _, no := range notSets(o) {
			for _, b := range [][]byte{nil, seed[:24], seed, seed[:7], sig} {
				if h := Hash(no, b); h != nil {
					t.Errorf("%v: %x", no, h)
				}
				if l, e := Digits(no, b); e != api.ErrCode || l != nil {
					t.Errorf("%v: digits %v %d", no, l, e)
				}
				for i, f := range []func() ([]byte, api.Errno){
					func() ([]byte, api.Errno) { return Chain(no, id, q, 0, 0, 1, b) },
					func() ([]byte, api.Errno) { return Chain(no, id, q, -1, 2, 1, b) },
					func() ([]byte, api.Errno) { return Secret(no, id, q, b, 0) },
					func() ([]byte, api.Errno) { return Secret(no, id, q, b, -1) },
					func() ([]byte, api.Errno) { return Random(no, id, q, b) },
					func() ([]byte, api.Errno) { return Public(no, id, q, b) },
					func() ([]byte, api.Errno) { return Sign(no, id, q, b, nil) },
					func() ([]byte, api.Errno) { return Candidate(no, id, q, nil, b) },
				} {
					if r, e := f(); e != api.ErrCode || r != nil {
						t.Errorf("%v, function %d: %x %d", no, i, r, e)
					}
				}
			}
		}
	}
}

// The chapter's examples.
func TestExamples(t *testing.T) {
	o, _ := param.Ots(2)
	want := append(make([]int, 128), 1, 2, 0, 0, 0)
	if l, e := Digits(o, make([]byte, 32)); e != api.OK || !slices.Equal(l, want) {
		t.Error(l, e)
	}
	want = append(slices.Repeat([]int{3}, 128), 0, 0, 0, 0, 0)
	if l, e := Digits(o, bytes.Repeat([]byte{255}, 32)); e != api.OK || !slices.Equal(l, want) {
		t.Error(l, e)
	}
}

// someSums returns hashes: the two extremes, those with one bit, and drawn ones.
func someSums(draw *rand.Rand, n int) [][]byte {
	l := [][]byte{make([]byte, n), bytes.Repeat([]byte{255}, n)}
	for bit := range 8 * n {
		b := make([]byte, n)
		b[bit/8] = 1 << (bit % 8)
		l = append(l, b)
	}
	for range 50 {
		l = append(l, some(draw, n))
	}
	return l
}

// P7.1: the digits of a hash, then those of the checksum, P in total.
func TestDigits(t *testing.T) {
	draw := rand.New(rand.NewSource(72))
	for _, o := range sets(t) {
		for _, sum := range someSums(draw, o.N) {
			l, e := Digits(o, sum)
			if want := refDigits(o, sum); e != api.OK || len(l) != o.P || !slices.Equal(l, want) {
				t.Fatalf("set %d, %x: %v %d, not %v", o.Code, sum, l, e, want)
			}
			if slices.Min(l) < 0 || slices.Max(l) >= 1<<o.W {
				t.Fatalf("set %d, %x: %v", o.Code, sum, l)
			}
		}
	}
}

// P7.1: Digits returns ErrArg if there are not N bytes.
func TestDigitsArg(t *testing.T) {
	for _, o := range sets(t) {
		for _, n := range []int{0, 1, o.N - 1, o.N + 1, 56 - o.N, 2 * o.N} {
			if l, e := Digits(o, make([]byte, n)); e != api.ErrArg || l != nil {
				t.Errorf("set %d, %d bytes: %v %d", o.Code, n, l, e)
			}
		}
		if l, e := Digits(o, nil); e != api.ErrArg || l != nil {
			t.Errorf("set %d, nil: %v %d", o.Code, l, e)
		}
	}
}

// P7.1, P7.6: Chain takes the steps from from to to, and can do so in two parts.
func TestChain(t *testing.T) {
	draw := rand.New(rand.NewSource(73))
	for _, o := range sets(t) {
		for round := range 40 {
			id, q, x := someLeaf(draw, o.N)
			i := []int{0, o.P - 1, draw.Intn(o.P)}[round%3]
			three := []int{someDigit(draw, o), someDigit(draw, o), someDigit(draw, o)}
			if round == 0 {
				three = []int{0, 0, 1<<o.W - 1}
			}
			slices.Sort(three)
			from, half, to := three[0], three[1], three[2]
			y, e := Chain(o, id, q, i, from, to, x)
			if want := refChain(o, id, q, i, from, to, x); e != api.OK || !bytes.Equal(y, want) {
				t.Fatalf("set %d, chain %d from %d to %d: %x %d, not %x", o.Code, i, from, to, y, e, want)
			}
			z, e := Chain(o, id, q, i, from, half, x)
			if e != api.OK {
				t.Fatal(e)
			}
			if z, e = Chain(o, id, q, i, half, to, z); e != api.OK || !bytes.Equal(z, y) {
				t.Fatalf("set %d, chain %d from %d over %d to %d: %x %d, not %x", o.Code, i, from, half, to, z, e, y)
			}
		}
	}
}

// P7.1, R3: after no step, Chain returns x, in new memory.
func TestChainStays(t *testing.T) {
	for _, o := range sets(t) {
		for _, j := range []int{0, 1<<o.W - 1} {
			x := bytes.Repeat([]byte{7}, o.N)
			y, e := Chain(o, [16]byte{}, 0, o.P-1, j, j, x)
			if e != api.OK || !bytes.Equal(y, x) {
				t.Fatalf("set %d: %x %d", o.Code, y, e)
			}
			y[0]++
			if x[0] != 7 {
				t.Errorf("set %d: the result is the argument", o.Code)
			}
		}
	}
}

// P7.1: Chain returns ErrArg for a chain, steps or bytes that cannot be.
func TestChainArg(t *testing.T) {
	for _, o := range sets(t) {
		x, end := make([]byte, o.N), 1<<o.W-1
		for _, c := range []struct {
			i, from, to int
			x           []byte
		}{
			{-1, 0, 1, x}, {o.P, 0, 1, x}, {o.P + 1<<16, 0, 1, x}, {math.MinInt, 0, 1, x}, {math.MaxInt, 0, 1, x},
			{0, -1, 0, x}, {0, -1, -1, x}, {0, math.MinInt, end, x}, {0, math.MinInt, math.MaxInt, x},
			{0, 1, 0, x}, {0, end, end - 1, x}, {0, end, 0, x}, {0, 0, -1, x},
			{0, 0, end + 1, x}, {0, end, end + 1, x}, {0, end + 1, end + 1, x}, {0, 0, math.MaxInt, x}, {0, math.MaxInt, math.MaxInt, x},
			{0, 0, 1, nil}, {0, 0, 1, x[1:]}, {0, 0, 1, append(x[:o.N:o.N], 0)}, {0, 0, 1, make([]byte, 56-o.N)}, {0, 0, 0, nil},
		} {
			if y, e := Chain(o, [16]byte{}, 0, c.i, c.from, c.to, c.x); e != api.ErrArg || y != nil {
				t.Errorf("set %d, chain %d from %d to %d, %d bytes: %x %d", o.Code, c.i, c.from, c.to, len(c.x), y, e)
			}
		}
		if _, e := Chain(o, [16]byte{}, 0, o.P-1, 0, end, x); e != api.OK {
			t.Errorf("set %d: %d", o.Code, e)
		}
	}
}

// P7.2: Secret, Random and Public.
func TestKeys(t *testing.T) {
	draw := rand.New(rand.NewSource(74))
	for _, o := range sets(t) {
		for round := range 3 {
			id, q, seed := someLeaf(draw, o.N)
			if round == 0 {
				q = math.MaxUint32
			}
			for i := range o.P {
				if x, e := Secret(o, id, q, seed, i); e != api.OK || !bytes.Equal(x, refSecret(o, id, q, seed, i)) {
					t.Errorf("set %d, chain %d: %x %d", o.Code, i, x, e)
				}
			}
			if c, e := Random(o, id, q, seed); e != api.OK || !bytes.Equal(c, refRandom(o, id, q, seed)) {
				t.Errorf("set %d: %x %d", o.Code, c, e)
			}
			if k, e := Public(o, id, q, seed); e != api.OK || !bytes.Equal(k, refPublic(o, id, q, seed)) {
				t.Errorf("set %d: %x %d", o.Code, k, e)
			}
		}
	}
}

// P7.2, P7.3: a seed with other than N bytes is ErrArg, and for Secret so is a chain that is none.
func TestSeedArg(t *testing.T) {
	id := [16]byte{}
	for _, o := range sets(t) {
		for _, n := range []int{0, 1, o.N - 1, o.N + 1, 56 - o.N, 2 * o.N} {
			seed := make([]byte, n)
			for i, f := range []func() ([]byte, api.Errno){
				func() ([]byte, api.Errno) { return Secret(o, id, 0, seed, 0) },
				func() ([]byte, api.Errno) { return Random(o, id, 0, seed) },
				func() ([]byte, api.Errno) { return Public(o, id, 0, seed) },
				func() ([]byte, api.Errno) { return Sign(o, id, 0, seed, []byte("m")) },
			} {
				if r, e := f(); e != api.ErrArg || r != nil {
					t.Errorf("set %d, seed of %d bytes, function %d: %x %d", o.Code, n, i, r, e)
				}
			}
		}
		for _, i := range []int{-1, o.P, 0xFFFD, 1 << 16, math.MinInt, math.MaxInt} {
			if x, e := Secret(o, id, 0, make([]byte, o.N), i); e != api.ErrArg || x != nil {
				t.Errorf("set %d, chain %d: %x %d", o.Code, i, x, e)
			}
		}
	}
}

// P7.3, P7.4, P7.7: a signature is as the chapter says, of OtsLen bytes, and its Candidate is Public.
func TestSign(t *testing.T) {
	draw := rand.New(rand.NewSource(75))
	for _, o := range sets(t) {
		for _, size := range []int{0, 1, 100, 5000} {
			id, q, seed := someLeaf(draw, o.N)
			msg := some(draw, size)
			sig, e := Sign(o, id, q, seed, msg)
			if e != api.OK || len(sig) != param.OtsLen(o) || !bytes.Equal(sig, refSign(o, id, q, seed, msg)) {
				t.Fatalf("set %d: %d bytes, %d", o.Code, len(sig), e)
			}
			again, e := Sign(o, id, q, seed, msg)
			if e != api.OK || !bytes.Equal(again, sig) {
				t.Errorf("set %d: another signature, %d", o.Code, e)
			}
			pub, e := Public(o, id, q, seed)
			if e != api.OK {
				t.Fatal(e)
			}
			if k, e := Candidate(o, id, q, msg, sig); e != api.OK || !bytes.Equal(k, pub) {
				t.Errorf("set %d: %x %d, not %x", o.Code, k, e, pub)
			}
		}
	}
}

// R6: nil is a message like an empty one.
func TestNil(t *testing.T) {
	for _, o := range sets(t) {
		id, seed := [16]byte{9}, make([]byte, o.N)
		a, e := Sign(o, id, 1, seed, nil)
		b, f := Sign(o, id, 1, seed, []byte{})
		if e != api.OK || f != api.OK || !bytes.Equal(a, b) {
			t.Errorf("set %d: %d %d", o.Code, e, f)
		}
		k, e := Candidate(o, id, 1, nil, a)
		l, f := Candidate(o, id, 1, []byte{}, a)
		if e != api.OK || f != api.OK || !bytes.Equal(k, l) {
			t.Errorf("set %d: %d %d", o.Code, e, f)
		}
	}
}

// P7.3: of a signature that is changed, or of something else, Candidate is another one, but still as the chapter says.
func TestCandidate(t *testing.T) {
	draw := rand.New(rand.NewSource(76))
	for _, o := range sets(t) {
		id, q, seed := someLeaf(draw, o.N)
		msg := []byte("a message")
		sig := refSign(o, id, q, seed, msg)
		pub := refPublic(o, id, q, seed)
		try := func(what string, id [16]byte, q uint32, msg, sig []byte) {
			k, e := Candidate(o, id, q, msg, sig)
			if e != api.OK || bytes.Equal(k, pub) || !bytes.Equal(k, refCandidate(o, id, q, msg, sig)) {
				t.Errorf("set %d, %s: %x %d", o.Code, what, k, e)
			}
		}
		other := id
		other[15] ^= 1
		try("another I", other, q, msg, sig)
		try("another q", id, q^1<<31, msg, sig)
		try("another message", id, q, []byte("a messagf"), sig)
		try("no message", id, q, nil, sig)
		for _, at := range []int{4, 3 + o.N, 4 + o.N, len(sig) - 1, 4 + draw.Intn(len(sig)-4)} {
			changed := bytes.Clone(sig)
			changed[at] ^= 1 << draw.Intn(8)
			try("another signature", id, q, msg, changed)
		}
		try("drawn bytes", id, q, msg, append(u32(o.Code), some(draw, len(sig)-4)...))
	}
}

// P7.3: Candidate returns ErrSig for another length, or another code.
func TestCandidateSig(t *testing.T) {
	id, msg := [16]byte{4}, []byte("m")
	for _, o := range sets(t) {
		sig := refSign(o, id, 5, make([]byte, o.N), msg)
		bad := [][]byte{nil, {}, sig[:3], sig[:4], sig[:4+o.N], sig[:len(sig)-1], sig[1:], append(bytes.Clone(sig), 0), sig[:len(sig)-o.N], append(bytes.Clone(sig), sig[:o.N]...)}
		for bit := range 32 {
			b := bytes.Clone(sig)
			b[bit/8] ^= 1 << (bit % 8)
			bad = append(bad, b)
		}
		for _, b := range bad {
			if k, e := Candidate(o, id, 5, msg, b); e != api.ErrSig || k != nil {
				t.Errorf("set %d, %d bytes with code %x: %x %d", o.Code, len(b), b[:min(4, len(b))], k, e)
			}
		}
	}
}

// P7.5: of two different hashes, each has a digit that is less than the corresponding one of the other.
func TestWinternitz(t *testing.T) {
	draw := rand.New(rand.NewSource(77))
	below := func(a, b []int) bool {
		for i := range a {
			if a[i] < b[i] {
				return true
			}
		}
		return false
	}
	for _, o := range sets(t) {
		sums := someSums(draw, o.N)
		near := bytes.Clone(sums[len(sums)-1])
		near[draw.Intn(o.N)] ^= 1 << draw.Intn(8)
		sums = append(sums, near)
		var digits [][]int
		for _, sum := range sums {
			l, e := Digits(o, sum)
			if e != api.OK {
				t.Fatal(e)
			}
			digits = append(digits, l)
		}
		for i := range sums {
			for j := range sums {
				if i != j && !below(digits[i], digits[j]) {
					t.Fatalf("set %d: no digit of %x is less than that of %x", o.Code, sums[i], sums[j])
				}
			}
		}
	}
}

// P7.7: a signature depends on I, q, the seed and the message.
func TestSignDepends(t *testing.T) {
	for _, o := range sets(t) {
		id, seed := [16]byte{1, 2}, make([]byte, o.N)
		sig := func(id [16]byte, q uint32, seed []byte, msg string) string {
			s, e := Sign(o, id, q, seed, []byte(msg))
			if e != api.OK {
				t.Fatal(e)
			}
			return string(s)
		}
		other := bytes.Clone(seed)
		other[o.N-1] = 1
		seen := map[string]bool{
			sig(id, 3, seed, "m"):              true,
			sig([16]byte{1, 3}, 3, seed, "m"):  true,
			sig(id, 1<<24+3, seed, "m"):        true,
			sig(id, 3, other, "m"):             true,
			sig(id, 3, seed, "n"):              true,
			sig(id, 3, seed, string([]byte{})): true,
		}
		if len(seen) != 6 {
			t.Errorf("set %d: %d signatures", o.Code, len(seen))
		}
	}
}

// R3: arguments stay as they are, and results are of no use to what comes later.
func TestMemory(t *testing.T) {
	draw := rand.New(rand.NewSource(78))
	for _, o := range sets(t) {
		id, q, seed := someLeaf(draw, o.N)
		msg := some(draw, 50)
		sig := refSign(o, id, q, seed, msg)
		args := [][]byte{seed, msg, sig}
		kept := [][]byte{bytes.Clone(seed), bytes.Clone(msg), bytes.Clone(sig)}
		calls := []func() []byte{
			func() []byte { return Hash(o, seed, msg) },
			func() []byte { r, _ := Chain(o, id, q, 1, 0, 1, seed); return r },
			func() []byte { r, _ := Chain(o, id, q, 1, 1, 1, seed); return r },
			func() []byte { r, _ := Secret(o, id, q, seed, 0); return r },
			func() []byte { r, _ := Random(o, id, q, seed); return r },
			func() []byte { r, _ := Public(o, id, q, seed); return r },
			func() []byte { r, _ := Sign(o, id, q, seed, msg); return r },
			func() []byte { r, _ := Candidate(o, id, q, msg, sig); return r },
		}
		for i, call := range calls {
			first := call()
			want := bytes.Clone(first)
			for j := range first[:cap(first)] {
				first[:cap(first)][j] ^= 255
			}
			for j := range args {
				if !bytes.Equal(args[j], kept[j]) {
					t.Fatalf("set %d, function %d: argument %d is changed", o.Code, i, j)
				}
			}
			if again := call(); !bytes.Equal(again, want) {
				t.Fatalf("set %d, function %d: %x, then %x", o.Code, i, want, again)
			}
		}
	}
}

// published are trees of RFC 8554 (appendix F, test case 2), and of the examples published for the other hashes of SP 800-208; their roots are made of Public.
var published = []struct {
	ots, height    int
	id, seed, root string
}{
	{3, 10, "d08fabd4a2091ff0a8cb4ed834e74534", "558b8966c48ae9cb898b423c83443aae014a72f1b1ab5cc85cf1d892903b5439", "32a58885cd9ba0431235466bff9651c6c92124404d45fa53cf161c28f1ad5a8e"},
	{4, 5, "215f83b7ccb9acbcd08db97b0d04dc2b", "a1c4696e2608035a886100d05cd99945eb3370731884a8235e2fb3d4d71f2547", "a1cd035833e0e90059603f26e07ad2aad152338e7a5e5984bcd5f7bb4eba40b7"},
	{8, 5, "202122232425262728292a2b2c2d2e2f", "000102030405060708090a0b0c0d0e0f1011121314151617", "2c571450aed99cfb4f4ac285da14882796618314508b12d2"},
	{16, 5, "505152535455565758595a5b5c5d5e5f", "303132333435363738393a3b3c3d3e3f4041424344454647", "db54a4509901051c01e26d9990e550347986da87924ff0b1"},
	{12, 5, "808182838485868788898a8b8c8d8e8f", "606162636465666768696a6b6c6d6e6f707172737475767778797a7b7c7d7e7f", "9bb7faee411cae806c16a466c3191a8b65d0ac31932bbf0c2d07c7a4a36379fe"},
}

// root returns the root of a tree over all leaves, as RFC 8554 makes it.
func root(t *testing.T, o api.Ots, id [16]byte, seed []byte, height int) []byte {
	nodes := make([][]byte, 2<<height)
	for r := len(nodes) - 1; r > 0; r-- {
		if q := r - 1<<height; q >= 0 {
			pub, e := Public(o, id, uint32(q), seed)
			if e != api.OK {
				t.Fatal(e)
			}
			nodes[r] = refHash(o, id[:], u32(uint32(r)), []byte{0x82, 0x82}, pub)
		} else {
			nodes[r] = refHash(o, id[:], u32(uint32(r)), []byte{0x83, 0x83}, nodes[2*r], nodes[2*r+1])
		}
	}
	return nodes[1]
}

// P7.2: Public yields the published roots.
func TestPublished(t *testing.T) {
	for _, p := range published {
		o, e := param.Ots(uint32(p.ots))
		if e != api.OK {
			t.Fatal(e)
		}
		id, _ := hex.DecodeString(p.id)
		seed, _ := hex.DecodeString(p.seed)
		if got := hex.EncodeToString(root(t, o, [16]byte(id), seed, p.height)); got != p.root {
			t.Errorf("set %d: %s, not %s", p.ots, got, p.root)
		}
	}
}
