package dsa

import (
	"bytes"
	"math"
	"math/rand"
	"testing"

	"livery/api"
	"livery/raise"
)

// checkSign checks the signature and, for those numbers of attempts, that it is returned if they are enough.
func checkSign(t *testing.T, k refSecret, msg, ctx []byte, rnd [32]byte, mosts ...int) []refAttempt {
	t.Helper()
	l := k.sign(t, msg, ctx, rnd)
	want := l[len(l)-1].sig
	for _, most := range append(mosts, len(l), len(l)-1) {
		sig, e := Sign(k.sk, msg, ctx, rnd, most)
		switch {
		case most < 1:
			if e != api.ErrArg || sig != nil {
				t.Fatalf("%d of %d attempts: %x, error %d", most, len(l), sig, e)
			}
		case most < len(l):
			if e != api.ErrCap || sig != nil {
				t.Fatalf("%d of %d attempts: %x, error %d", most, len(l), sig, e)
			}
		case e != api.OK || !bytes.Equal(sig, want) || len(sig) != 3309:
			t.Fatalf("%x, %x, %x: %d of %d attempts: %x %d, and not %x", msg, ctx, rnd, most, len(l), sig, e, want)
		}
	}
	return l
}

// P16.2, P16.4, P16.6: signatures of messages and contexts of many lengths, with any rnd.
func TestSign(t *testing.T) {
	draw := rand.New(rand.NewSource(5))
	for i := range 3 {
		pk, sk := keyPair(t, draw)
		k := refSecretOf(t, sk)
		for _, n := range []int{0, 1, 31, 64, 135, 136, 137, 254, 255} {
			msg, ctx := drawn(draw, 3*n+i), drawn(draw, n)
			for _, rnd := range [][32]byte{{}, drawn32(draw)} {
				l := checkSign(t, k, msg, ctx, rnd, 200, math.MaxInt)
				if e := Verify(pk, msg, ctx, l[len(l)-1].sig); e != api.OK {
					t.Fatalf("%x, %x, %x: error %d", msg, ctx, rnd, e)
				}
			}
		}
	}
}

// P16.2, P16.6: each number of attempts, from below 1 to more than enough.
func TestAttempts(t *testing.T) {
	_, sk := keyPair(t, rand.New(rand.NewSource(6)))
	k := refSecretOf(t, sk)
	mosts := []int{math.MinInt, -1 << 40, -200, -1, 0, 1 << 20, 1 << 40, math.MaxInt}
	for most := 1; most < 40; most++ {
		mosts = append(mosts, most)
	}
	for n := range 6 {
		checkSign(t, k, []byte("attempts"), nil, counted(n), mosts...)
	}
}

// P16.2: attempts that fail, or do not fail, by a single unit. The values of rnd were searched for.
func TestLimitsOfAttempts(t *testing.T) {
	_, sk, e := KeyGen([32]byte{})
	mustBeOK(t, e)
	k := refSecretOf(t, sk)
	for _, c := range []struct {
		n             int
		z, low, marks int
		fine          bool
	}{
		{8303, 524091, 261296, 28, true},
		{1339, 524092, 261569, 40, false},
		{1479, 523648, 261691, 33, true},
		{193, 523865, 261692, 42, false},
		{4790, 523087, 261604, 55, true},
		{660, 523938, 261543, 56, false},
	} {
		l := checkSign(t, k, nil, nil, counted(c.n))
		if l[0].z != c.z || l[0].low != c.low || l[0].marks != c.marks || l[0].fine() != c.fine {
			t.Errorf("%v: %d %d %d %v", c, l[0].z, l[0].low, l[0].marks, l[0].fine())
		}
	}
}

// P16.2: so many attempts that their numbers have two bytes. The value of rnd was searched for.
func TestManyAttempts(t *testing.T) {
	pk, sk, e := KeyGen([32]byte{})
	mustBeOK(t, e)
	l := checkSign(t, refSecretOf(t, sk), nil, nil, counted(51663), 51, 52, 200)
	if len(l) != 56 {
		t.Errorf("%d attempts", len(l))
	}
	if e := Verify(pk, nil, nil, l[55].sig); e != api.OK {
		t.Errorf("error %d", e)
	}
}

// P16.2: secret keys that KeyGen did not make: s, e and t0 of the least, of the greatest, and of any coefficients.
func TestSignOfOtherKeys(t *testing.T) {
	draw := rand.New(rand.NewSource(7))
	rest := func(small byte, t0 []byte) []byte { return refJoin(bytes.Repeat([]byte{small}, 1408), t0) }
	zero := refPut(13, refBelow(4096, api.DPoly{}))
	for _, vectors := range [][]byte{
		rest(0x44, bytes.Repeat(zero, 6)),
		rest(0x00, bytes.Repeat(zero, 6)),
		rest(0x88, bytes.Repeat(zero, 6)),
		rest(0x80, drawn(draw, 2496)),
		rest(0x44, make([]byte, 2496)),
		rest(0x44, bytes.Repeat([]byte{255}, 2496)),
		rest(0x17, bytes.Repeat([]byte{0, 255}, 1248)),
	} {
		k := refSecretOf(t, refJoin(drawn(draw, 128), vectors))
		for n := range 4 {
			checkSign(t, k, []byte{byte(n)}, nil, counted(n), 3, 200)
		}
	}
}

// P16.2, P1: of several errors, the first one is returned; a context of 255 bytes is not too long.
func TestSignErrors(t *testing.T) {
	_, sk := keyPair(t, rand.New(rand.NewSource(8)))
	for _, c := range []struct {
		sk   []byte
		ctx  int
		most int
		want api.Errno
	}{
		{sk[1:], 256, 0, api.ErrSk},
		{changed(sk, 1535, 0xff), 256, 0, api.ErrSk},
		{changed(sk, 1535, 0xff), 255, 1, api.ErrSk},
		{sk, 256, 0, api.ErrLong},
		{sk, 256, 1, api.ErrLong},
		{sk, 257, 200, api.ErrLong},
		{sk, 511, 200, api.ErrLong},
		{sk, 512, 200, api.ErrLong},
		{sk, 1 << 16, 200, api.ErrLong},
		{sk, 255, 0, api.ErrArg},
		{sk, 0, -1, api.ErrArg},
		{sk, 255, 200, api.OK},
	} {
		sig, e := Sign(c.sk, []byte("errors"), make([]byte, c.ctx), [32]byte{}, c.most)
		if e != c.want || (e == api.OK) != (len(sig) == 3309) || e != api.OK && sig != nil {
			t.Errorf("%d, %d: %x, error %d, and not %d", c.ctx, c.most, sig, e, c.want)
		}
	}
}

// P16.2: rnd, the context and the message all matter, and where one ends and the next one begins.
func TestSignOfParts(t *testing.T) {
	pk, sk := keyPair(t, rand.New(rand.NewSource(9)))
	seen := map[string]bool{}
	for _, c := range []struct {
		msg, ctx string
		rnd      [32]byte
	}{
		{"", "", [32]byte{}}, {"", "", [32]byte{31: 1}}, {"", "", [32]byte{1}},
		{"ab", "", [32]byte{}}, {"b", "a", [32]byte{}}, {"", "ab", [32]byte{}}, {"\x00", "", [32]byte{}}, {"", "\x00", [32]byte{}},
	} {
		msg, ctx := []byte(c.msg), []byte(c.ctx)
		sig := signed(t, sk, msg, ctx, c.rnd)
		if seen[string(sig)] {
			t.Errorf("%q, %q, %x: %x again", msg, ctx, c.rnd, sig)
		}
		seen[string(sig)] = true
		if e := Verify(pk, msg, ctx, sig); e != api.OK {
			t.Errorf("%q, %q, %x: error %d", msg, ctx, c.rnd, e)
		}
	}
}

// R3, R4, R6: arguments stay as they are, results are new memory, and nil is the same as nothing.
func TestSignMemory(t *testing.T) {
	draw := rand.New(rand.NewSource(10))
	_, sk := keyPair(t, draw)
	msg, ctx := drawn(draw, 100), drawn(draw, 20)
	before := refJoin(sk, msg, ctx)
	sig := signed(t, sk, msg, ctx, [32]byte{})
	want := bytes.Clone(sig)
	clear(sig)
	if again := signed(t, sk, msg, ctx, [32]byte{}); !bytes.Equal(again, want) {
		t.Errorf("%x, and not %x", again, want)
	}
	if !bytes.Equal(refJoin(sk, msg, ctx), before) {
		t.Error("the arguments were modified")
	}
	if a, b := signed(t, sk, nil, nil, [32]byte{}), signed(t, sk, []byte{}, []byte{}, [32]byte{}); !bytes.Equal(a, b) {
		t.Errorf("%x and %x", a, b)
	}
}

// P16.2, R7: the numbers of the polynomials of each attempt have two bytes; where there are no more numbers, there are no more attempts. (No secret key is known of which so many attempts fail: this one cannot be encoded.)
func TestNumbered(t *testing.T) {
	if got := number(0x1234); !bytes.Equal(got, []byte{0x34, 0x12}) {
		t.Errorf("%x", got)
	}
	if last := 5*numbered - 1; last > 65535 || last+5 <= 65535 {
		t.Errorf("the last number is %d", last)
	}
	var k secret
	k.rho = make([]byte, 32)
	for j := range k.s {
		k.s[j] = api.DPoly{1 << 22}
	}
	k.s = transforms(k.s)
	if sig, e := caught(k, math.MaxInt); e != api.ErrCap || sig != nil {
		t.Errorf("%x, error %d", sig, e)
	}
}

// caught returns what the method returns or raises.
func caught(k secret, most int) (sig []byte, e api.Errno) {
	defer func() { e = raise.Error(recover()) }()
	return k.signature(make([]byte, 64), make([]byte, 64), most), api.OK
}

// P16.2: the limit of the product of t0 with c, which no secret key of 13 bits a coefficient reaches, and that of the second result of Decompose.
func TestCorrection(t *testing.T) {
	for _, c := range []struct {
		a, t int32
		want bool
	}{
		{0, 0, true}, {0, 261887, true}, {0, -261887, true}, {0, 261888, false}, {0, -261888, false}, {0, 4190208, false},
		{261691, 0, true}, {-261691, 0, true}, {261692, 0, false}, {-261692, 0, false}, {261888, 0, false}, {523776, 0, true}, {523776 - 261692, 0, false},
	} {
		for _, at := range []int{0, 100, 255} {
			var a, p api.DPoly
			a[at], p[at] = c.a, c.t
			if h, count, ok := correction(a, p); ok != c.want || !ok && (h != api.Hint{} || count != 0) {
				t.Errorf("%v: %d marks, %v", c, count, ok)
			}
		}
	}
}
