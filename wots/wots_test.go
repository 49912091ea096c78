package wots

import (
	"bytes"
	"crypto/sha3"
	"encoding/hex"
	"math"
	"math/rand"
	"slices"
	"testing"

	"livery/api"
	"livery/param"
)

// P10.2: the chapter's example, and the digits of the other extreme.
func TestDigitsExamples(t *testing.T) {
	for _, x := range sets(t) {
		tail := []int{3, 12, 0} // 960
		if x.N == 24 {
			tail = []int{2, 13, 0} // 720
		}
		want := append(make([]int, 2*x.N), tail...)
		if l, e := Digits(x, make([]byte, x.N)); e != api.OK || !slices.Equal(l, want) {
			t.Errorf("set %#x: %v %d", x.Code, l, e)
		}
		want = append(slices.Repeat([]int{15}, 2*x.N), 0, 0, 0)
		if l, e := Digits(x, bytes.Repeat([]byte{255}, x.N)); e != api.OK || !slices.Equal(l, want) {
			t.Errorf("set %#x: %v %d", x.Code, l, e)
		}
	}
}

// P10.2: the upper and the lower four bits of each byte, then the checksum, Len in total.
func TestDigits(t *testing.T) {
	draw := rand.New(rand.NewSource(103))
	for _, x := range sets(t) {
		for _, m := range someTexts(draw, x.N) {
			l, e := Digits(x, m)
			if want := refDigits(m); e != api.OK || len(l) != x.Len || !slices.Equal(l, want) {
				t.Fatalf("set %#x, %x: %v %d, not %v", x.Code, m, l, e, want)
			}
			if slices.Min(l) < 0 || slices.Max(l) >= api.Digit {
				t.Fatalf("set %#x, %x: %v", x.Code, m, l)
			}
		}
	}
}

// P10.2: ErrArg unless there are N bytes.
func TestDigitsArg(t *testing.T) {
	for _, x := range sets(t) {
		for _, n := range otherSizes(x.N) {
			if l, e := Digits(x, make([]byte, n)); e != api.ErrArg || l != nil {
				t.Errorf("set %#x, %d bytes: %v %d", x.Code, n, l, e)
			}
		}
		if l, e := Digits(x, nil); e != api.ErrArg || l != nil {
			t.Errorf("set %#x, nil: %v %d", x.Code, l, e)
		}
	}
}

// P10.3, P10.4: what is no set is answered with ErrCode, ahead of all other errors.
func TestNotSets(t *testing.T) {
	for _, x := range sets(t) {
		all := make([]byte, x.Len*x.N)
		for _, no := range notSets(x) {
			for _, b := range [][]byte{nil, all[:24], all[:32], all[:x.N], all} {
				if l, e := Digits(no, b); e != api.ErrCode || l != nil {
					t.Errorf("%v: digits %v %d", no, l, e)
				}
				for i, f := range []func() ([]byte, api.Errno){
					func() ([]byte, api.Errno) { return Chain(no, b, 0, 1, b, api.Adrs{}) },
					func() ([]byte, api.Errno) { return Chain(no, b, -1, 99, b, api.Adrs{}) },
					func() ([]byte, api.Errno) { return Secret(no, b, b, api.Adrs{}, 0) },
					func() ([]byte, api.Errno) { return Secret(no, b, b, api.Adrs{}, -1) },
					func() ([]byte, api.Errno) { return Public(no, b, b, api.Adrs{}) },
					func() ([]byte, api.Errno) { return Sign(no, b, b, b, api.Adrs{}) },
					func() ([]byte, api.Errno) { return FromSig(no, b, b, all, api.Adrs{}) },
					func() ([]byte, api.Errno) { return FromSig(no, b, b, nil, api.Adrs{}) },
				} {
					if r, e := f(); e != api.ErrCode || r != nil {
						t.Errorf("%v, function %d: %x %d", no, i, r, e)
					}
				}
			}
		}
	}
}

// P10.3: Chain takes the steps that it is asked for, from each step on.
func TestChain(t *testing.T) {
	draw := rand.New(rand.NewSource(104))
	for _, x := range sets(t) {
		for from := range api.Digit {
			for steps := range api.Digit - from {
				b, seed, a := someLeaf(draw, x.N)
				want := refChain(x, b, from, steps, seed, a)
				if got, e := Chain(x, b, from, steps, seed, a); e != api.OK || !bytes.Equal(got, want) {
					t.Fatalf("set %#x, %d steps from %d: %x %d, not %x", x.Code, steps, from, got, e, want)
				}
			}
		}
	}
}

// P10.3, R3: after no step it is b, in new memory.
func TestChainStays(t *testing.T) {
	for _, x := range families(t) {
		for from := range api.Digit {
			b := bytes.Repeat([]byte{7}, x.N)
			got, e := Chain(x, b, from, 0, b, api.Adrs{})
			if e != api.OK || !bytes.Equal(got, b) {
				t.Fatalf("set %#x, from %d: %x %d", x.Code, from, got, e)
			}
			got[0]++
			if b[0] != 7 {
				t.Errorf("set %#x: the result is the argument", x.Code)
			}
		}
	}
}

// P10.3: ErrArg for bytes or steps that cannot be.
func TestChainArg(t *testing.T) {
	for _, x := range sets(t) {
		good := make([]byte, x.N)
		refused := func(b []byte, from, steps int, seed []byte) {
			t.Helper()
			if r, e := Chain(x, b, from, steps, seed, api.Adrs{}); e != api.ErrArg || r != nil {
				t.Errorf("set %#x, %d steps from %d, %d and %d bytes: %x %d", x.Code, steps, from, len(b), len(seed), r, e)
			}
		}
		for _, n := range otherSizes(x.N) {
			refused(make([]byte, n), 0, 1, good)
			refused(good, 0, 1, make([]byte, n))
			refused(make([]byte, n), 0, 0, make([]byte, n))
		}
		refused(nil, 0, 0, good)
		refused(good, 0, 0, nil)
		for _, c := range [][2]int{
			{-1, 0}, {-1, 1}, {-1, 15}, {0, -1}, {1, -1}, {15, -1}, {-1, -1}, {16, -1}, {17, -2},
			{0, 16}, {1, 15}, {8, 8}, {15, 1}, {16, 0}, {17, 0}, {255, 0}, {256, 1}, {1 << 32, 0}, {0, 1 << 32},
			{math.MaxInt, 0}, {math.MaxInt, 1}, {0, math.MaxInt}, {1, math.MaxInt}, {math.MaxInt, math.MaxInt},
			{math.MinInt, 0}, {0, math.MinInt}, {math.MinInt, math.MinInt}, {math.MinInt, math.MaxInt}, {math.MaxInt, math.MinInt},
		} {
			refused(good, c[0], c[1], good)
		}
	}
}

// P10.3: Secret is the start of a chain, for each of them.
func TestSecret(t *testing.T) {
	draw := rand.New(rand.NewSource(105))
	for _, x := range sets(t) {
		sk, seed, a := someLeaf(draw, x.N)
		for i := range x.Len {
			want := refSecret(x, sk, seed, a, i)
			if got, e := Secret(x, sk, seed, a, i); e != api.OK || !bytes.Equal(got, want) {
				t.Errorf("set %#x, chain %d: %x %d, not %x", x.Code, i, got, e, want)
			}
		}
	}
}

// P10.3: ErrArg for a chain that is none.
func TestSecretArg(t *testing.T) {
	for _, x := range sets(t) {
		b := make([]byte, x.N)
		for _, i := range []int{-1, x.Len, x.Len + 1, 118 - x.Len, 1 << 32, math.MinInt, math.MaxInt} {
			if i >= 0 && i < x.Len {
				continue
			}
			if r, e := Secret(x, b, b, api.Adrs{}, i); e != api.ErrArg || r != nil {
				t.Errorf("set %#x, chain %d: %x %d", x.Code, i, r, e)
			}
		}
	}
}

// P10.4, P10.6: Public, Sign and FromSig, of drawn leaves, and that what was signed verifies.
func TestSign(t *testing.T) {
	draw := rand.New(rand.NewSource(106))
	for _, x := range sets(t) {
		for round := range 4 {
			sk, seed, a := someLeaf(draw, x.N)
			m := [][]byte{make([]byte, x.N), bytes.Repeat([]byte{255}, x.N), some(draw, x.N), some(draw, x.N)}[round]
			pub, e := Public(x, sk, seed, a)
			if e != api.OK || len(pub) != x.Len*x.N || !bytes.Equal(pub, refPublic(x, sk, seed, a)) {
				t.Fatalf("set %#x: public %x %d", x.Code, pub, e)
			}
			sig, e := Sign(x, sk, seed, m, a)
			if e != api.OK || len(sig) != x.Len*x.N || !bytes.Equal(sig, refSign(x, sk, seed, m, a)) {
				t.Fatalf("set %#x: signature %x %d", x.Code, sig, e)
			}
			if ends, e := FromSig(x, seed, m, sig, a); e != api.OK || !bytes.Equal(ends, pub) {
				t.Fatalf("set %#x: %x %d, not %x", x.Code, ends, e, pub)
			}
		}
	}
}

// P10.4: Public is what Chain makes of each Secret, and Sign what it makes in as many steps as Digits tells.
func TestSignByChains(t *testing.T) {
	draw := rand.New(rand.NewSource(107))
	for _, x := range families(t) {
		sk, seed, a := someLeaf(draw, x.N)
		m := some(draw, x.N)
		counts, e := Digits(x, m)
		if e != api.OK {
			t.Fatal(e)
		}
		var ends, sig []byte
		for i, d := range counts {
			start, e := Secret(x, sk, seed, a, i)
			if e != api.OK {
				t.Fatal(e)
			}
			a[5] = uint32(i)
			end, e := Chain(x, start, 0, 15, seed, a)
			if e != api.OK {
				t.Fatal(e)
			}
			part, e := Chain(x, start, 0, d, seed, a)
			if e != api.OK {
				t.Fatal(e)
			}
			ends, sig = append(ends, end...), append(sig, part...)
		}
		if pub, e := Public(x, sk, seed, a); e != api.OK || !bytes.Equal(pub, ends) {
			t.Errorf("set %#x: public %x %d", x.Code, pub, e)
		}
		if got, e := Sign(x, sk, seed, m, a); e != api.OK || !bytes.Equal(got, sig) {
			t.Errorf("set %#x: signature %x %d", x.Code, got, e)
		}
	}
}

// P10.4: of what is no signature of m by the leaf, FromSig is something else, but as the chapter says.
func TestFromSig(t *testing.T) {
	draw := rand.New(rand.NewSource(108))
	for _, x := range families(t) {
		sk, seed, a := someLeaf(draw, x.N)
		m := some(draw, x.N)
		sig, pub := refSign(x, sk, seed, m, a), refPublic(x, sk, seed, a)
		try := func(what string, seed, m, sig []byte, a api.Adrs) {
			t.Helper()
			ends, e := FromSig(x, seed, m, sig, a)
			if e != api.OK || bytes.Equal(ends, pub) || !bytes.Equal(ends, refFromSig(x, seed, m, sig, a)) {
				t.Errorf("set %#x, %s: %x %d", x.Code, what, ends, e)
			}
		}
		for word := range 5 {
			other := a
			other[word] ^= 1 << draw.Intn(32)
			try("another address", seed, m, sig, other)
		}
		for _, at := range []int{0, x.N - 1, draw.Intn(x.N)} {
			other := bytes.Clone(m)
			other[at] ^= 1 << draw.Intn(8)
			try("another text", seed, other, sig, a)
			other = bytes.Clone(seed)
			other[at] ^= 1 << draw.Intn(8)
			try("another seed", other, m, sig, a)
		}
		for _, at := range []int{0, len(sig) - 1, draw.Intn(len(sig))} {
			other := bytes.Clone(sig)
			other[at] ^= 1 << draw.Intn(8)
			try("another signature", seed, m, other, a)
		}
		try("drawn bytes", seed, m, some(draw, len(sig)), a)
	}
}

// P10.3, P10.4: ErrArg for what should have N bytes and has not, one argument after the other.
func TestSizes(t *testing.T) {
	for _, x := range sets(t) {
		b, a := make([]byte, x.N), api.Adrs{}
		sig := make([]byte, x.Len*x.N)
		for _, n := range otherSizes(x.N) {
			bad := make([]byte, n)
			for i, f := range []func() ([]byte, api.Errno){
				func() ([]byte, api.Errno) { return Secret(x, bad, b, a, 0) },
				func() ([]byte, api.Errno) { return Secret(x, b, bad, a, 0) },
				func() ([]byte, api.Errno) { return Public(x, bad, b, a) },
				func() ([]byte, api.Errno) { return Public(x, b, bad, a) },
				func() ([]byte, api.Errno) { return Sign(x, bad, b, b, a) },
				func() ([]byte, api.Errno) { return Sign(x, b, bad, b, a) },
				func() ([]byte, api.Errno) { return Sign(x, b, b, bad, a) },
				func() ([]byte, api.Errno) { return FromSig(x, bad, b, sig, a) },
				func() ([]byte, api.Errno) { return FromSig(x, b, bad, sig, a) },
			} {
				if r, e := f(); e != api.ErrArg || r != nil {
					t.Errorf("set %#x, %d bytes, function %d: %x %d", x.Code, n, i, r, e)
				}
			}
		}
		for _, n := range []int{0, 1, x.N, len(sig) - x.N, len(sig) - 1, len(sig) + 1, len(sig) + x.N, 51 * 32, 67 * 24, 4 + len(sig)} {
			if r, e := FromSig(x, b, b, make([]byte, n), a); e != api.ErrArg || r != nil {
				t.Errorf("set %#x, signature of %d bytes: %x %d", x.Code, n, r, e)
			}
		}
	}
}

// P10.5: some steps and then further ones are all of them at once.
func TestComposition(t *testing.T) {
	draw := rand.New(rand.NewSource(109))
	for _, x := range families(t) {
		for range 60 {
			b, seed, a := someLeaf(draw, x.N)
			three := []int{draw.Intn(api.Digit), draw.Intn(api.Digit), draw.Intn(api.Digit)}
			slices.Sort(three)
			from, half, to := three[0], three[1], three[2]
			once, e := Chain(x, b, from, to-from, seed, a)
			if e != api.OK {
				t.Fatal(e)
			}
			part, e := Chain(x, b, from, half-from, seed, a)
			if e != api.OK {
				t.Fatal(e)
			}
			if part, e = Chain(x, part, half, to-half, seed, a); e != api.OK || !bytes.Equal(part, once) {
				t.Fatalf("set %#x, from %d over %d to %d: %x %d, not %x", x.Code, from, half, to, part, e, once)
			}
		}
	}
}

// P10.7: of two byte strings whose digits differ, each has a digit that is less than that of the other.
func TestChecksum(t *testing.T) {
	draw := rand.New(rand.NewSource(110))
	below := func(a, b []int) bool {
		for i := range a {
			if a[i] < b[i] {
				return true
			}
		}
		return false
	}
	for _, x := range families(t) {
		texts := someTexts(draw, x.N)
		near := bytes.Clone(texts[len(texts)-1])
		near[draw.Intn(x.N)] ^= 1 << draw.Intn(8)
		texts = append(texts, near)
		var all [][]int
		for _, m := range texts {
			l, e := Digits(x, m)
			if e != api.OK {
				t.Fatal(e)
			}
			all = append(all, l)
		}
		for i := range texts {
			for j := range texts {
				if i != j && !below(all[i], all[j]) {
					t.Fatalf("set %#x: no digit of %x is less than that of %x", x.Code, texts[i], texts[j])
				}
			}
		}
	}
}

// P10.8: the words of an address that a function sets itself are ignored, and all others are not.
func TestIgnoredWords(t *testing.T) {
	draw := rand.New(rand.NewSource(111))
	for _, x := range families(t) {
		sk, seed, a := someLeaf(draw, x.N)
		m := some(draw, x.N)
		sig := some(draw, x.Len*x.N)
		for i, c := range []struct {
			from int // the first word that is ignored
			call func(a api.Adrs) ([]byte, api.Errno)
		}{
			{6, func(a api.Adrs) ([]byte, api.Errno) { return Chain(x, sk, 3, 2, seed, a) }},
			{5, func(a api.Adrs) ([]byte, api.Errno) { return Secret(x, sk, seed, a, 7) }},
			{5, func(a api.Adrs) ([]byte, api.Errno) { return Public(x, sk, seed, a) }},
			{5, func(a api.Adrs) ([]byte, api.Errno) { return Sign(x, sk, seed, m, a) }},
			{5, func(a api.Adrs) ([]byte, api.Errno) { return FromSig(x, seed, m, sig, a) }},
		} {
			want, e := c.call(a)
			if e != api.OK {
				t.Fatal(e)
			}
			for word := range a {
				for _, value := range []uint32{0, 1, 2, 15, math.MaxUint32, draw.Uint32()} {
					other := a
					other[word] = value
					got, e := c.call(other)
					same := word >= c.from || value == a[word]
					if e != api.OK || bytes.Equal(got, want) != same {
						t.Errorf("set %#x, function %d, word %d: %d", x.Code, i, word, e)
					}
				}
			}
		}
	}
}

// P10.4: values that the reference implementation of RFC 8391 prints (its test/vectors), as the tests of github.com/bwesterb/go-xmssmt hold them: the first 10 bytes of SHAKE128 of each result.
func TestPublished(t *testing.T) {
	sumOf := func(b []byte) string { return hex.EncodeToString(sha3.SumSHAKE128(b, 10)) }
	for _, p := range []struct {
		code     uint32
		pub, sig string
	}{
		{1, "a5df5a7785a48961552e", "4443fb313e5b0c2e8bec"},
		{13, "adbec5b9ba94bff3447d", "b32683d5888df51aa074"},
		{16, "e008635b776020636868", "05d9a9d517021307b1a7"},
		{19, "8f041a7c67b46fc80b0d", "98a906af2d18429309f6"},
	} {
		x, e := param.Xmss(p.code)
		if e != api.OK {
			t.Fatal(e)
		}
		sk, seed, m := make([]byte, x.N), make([]byte, x.N), make([]byte, x.N)
		for i := range x.N {
			sk[i], seed[i], m[i] = byte(i), byte(2*i), byte(3*i)
		}
		var a api.Adrs
		for i := range a {
			a[i] = 500000000 * uint32(i)
		}
		if pub, e := Public(x, sk, seed, a); e != api.OK || sumOf(pub) != p.pub {
			t.Errorf("set %d: public %s %d, not %s", p.code, sumOf(pub), e, p.pub)
		}
		sig, e := Sign(x, sk, seed, m, a)
		if e != api.OK || sumOf(sig) != p.sig {
			t.Errorf("set %d: signature %s %d, not %s", p.code, sumOf(sig), e, p.sig)
		}
		if ends, e := FromSig(x, seed, m, sig, a); e != api.OK || sumOf(ends) != p.pub {
			t.Errorf("set %d: from the signature %s %d, not %s", p.code, sumOf(ends), e, p.pub)
		}
	}
}

// R3, R4: arguments stay as they are, results share no memory with them, and the same calls return the same.
func TestMemory(t *testing.T) {
	draw := rand.New(rand.NewSource(112))
	for _, x := range families(t) {
		sk, seed, a := someLeaf(draw, x.N)
		m, sig := some(draw, x.N), some(draw, x.Len*x.N)
		m[0], m[1] = 0, 255 // digits of which no steps are left, or taken
		args := [][]byte{sk, seed, m, sig}
		kept := [][]byte{bytes.Clone(sk), bytes.Clone(seed), bytes.Clone(m), bytes.Clone(sig)}
		call := func(f func() ([]byte, api.Errno)) func() []byte {
			return func() []byte { b, _ := f(); return b }
		}
		for i, f := range []func() []byte{
			func() []byte { return F(x, sk, m) },
			func() []byte { return H(x, sk, m) },
			func() []byte { return HMsg(x, sk, m) },
			func() []byte { return Prf(x, sk, m) },
			func() []byte { return PrfKeygen(x, sk, m) },
			call(func() ([]byte, api.Errno) { return Chain(x, sk, 4, 3, seed, a) }),
			call(func() ([]byte, api.Errno) { return Chain(x, sk, 4, 0, seed, a) }),
			call(func() ([]byte, api.Errno) { return Secret(x, sk, seed, a, 1) }),
			call(func() ([]byte, api.Errno) { return Public(x, sk, seed, a) }),
			call(func() ([]byte, api.Errno) { return Sign(x, sk, seed, m, a) }),
			call(func() ([]byte, api.Errno) { return FromSig(x, seed, m, sig, a) }),
		} {
			first := f()
			want := bytes.Clone(first)
			for j := range first[:cap(first)] {
				first[:cap(first)][j] ^= 255
			}
			for j := range args {
				if !bytes.Equal(args[j], kept[j]) {
					t.Fatalf("set %#x, function %d: argument %d is changed", x.Code, i, j)
				}
			}
			if again := f(); len(want) == 0 || !bytes.Equal(again, want) {
				t.Fatalf("set %#x, function %d: %x, then %x", x.Code, i, want, again)
			}
		}
		l, _ := Digits(x, m)
		want := slices.Clone(l)
		clear(l)
		if again, _ := Digits(x, m); !slices.Equal(again, want) || !bytes.Equal(m, kept[2]) {
			t.Errorf("set %#x: digits %v, then %v", x.Code, want, again)
		}
	}
}
