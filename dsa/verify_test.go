package dsa

import (
	"bytes"
	"math/rand"
	"testing"

	"livery/api"
)

// signature is one with what it belongs to.
type signature struct{ pk, msg, ctx, sig []byte }

func drawnSignature(t *testing.T, draw *rand.Rand) signature {
	t.Helper()
	pk, sk := keyPair(t, draw)
	msg, ctx := drawn(draw, 50), drawn(draw, 10)
	return signature{pk, msg, ctx, signed(t, sk, msg, ctx, drawn32(draw))}
}

// P16.3, P16.4: a signature is accepted; with any byte of it, of the key, of the message or of the context changed, it is not.
func TestVerify(t *testing.T) {
	draw := rand.New(rand.NewSource(11))
	c := drawnSignature(t, draw)
	if e := Verify(c.pk, c.msg, c.ctx, c.sig); e != api.OK {
		t.Fatalf("error %d", e)
	}
	for part, b := range [][]byte{c.pk, c.msg, c.ctx, c.sig} {
		for i := range b {
			was := b[i]
			b[i] ^= 1 << draw.Intn(8)
			if e := Verify(c.pk, c.msg, c.ctx, c.sig); e != api.ErrSig {
				t.Errorf("byte %d of part %d: error %d", i, part, e)
			}
			b[i] = was
		}
	}
}

// P16.3: signatures of other keys, messages and contexts, and where the context ends.
func TestVerifyOther(t *testing.T) {
	draw := rand.New(rand.NewSource(12))
	a, b := drawnSignature(t, draw), drawnSignature(t, draw)
	for i, c := range []signature{
		{b.pk, a.msg, a.ctx, a.sig},
		{a.pk, b.msg, a.ctx, a.sig},
		{a.pk, a.msg, b.ctx, a.sig},
		{a.pk, a.msg, a.ctx, b.sig},
		{a.pk, a.msg, nil, a.sig},
		{a.pk, nil, a.ctx, a.sig},
		{a.pk, refJoin(a.ctx[9:], a.msg), a.ctx[:9], a.sig},
		{a.pk, append(bytes.Clone(a.msg), 0), a.ctx, a.sig},
		{a.pk, a.msg, append(bytes.Clone(a.ctx), 0), a.sig},
	} {
		if e := Verify(c.pk, c.msg, c.ctx, c.sig); e != api.ErrSig {
			t.Errorf("%d: error %d", i, e)
		}
	}
}

// P16.3, P1, R6: lengths, and of several errors the first one.
func TestVerifyErrors(t *testing.T) {
	c := drawnSignature(t, rand.New(rand.NewSource(13)))
	long := make([]byte, 256)
	for _, pk := range append(others(api.DsaPk), c.pk[1:], c.pk[:1951], append(bytes.Clone(c.pk), 0)) {
		for _, e := range []api.Errno{Verify(pk, c.msg, c.ctx, c.sig), Verify(pk, c.msg, long, nil)} {
			if e != api.ErrPk {
				t.Errorf("a key of %d bytes: error %d", len(pk), e)
			}
		}
	}
	for _, n := range []int{256, 257, 511, 512, 1 << 16} {
		for _, sig := range [][]byte{nil, c.sig} {
			if e := Verify(c.pk, c.msg, make([]byte, n), sig); e != api.ErrLong {
				t.Errorf("a context of %d bytes: error %d", n, e)
			}
		}
	}
	for _, sig := range append(others(api.DsaSig), c.sig[1:], c.sig[:3308], append(bytes.Clone(c.sig), 0)) {
		if e := Verify(c.pk, c.msg, c.ctx, sig); e != api.ErrSig {
			t.Errorf("%d bytes: error %d", len(sig), e)
		}
	}
	for _, b := range []byte{0, 255} {
		if e := Verify(bytes.Repeat([]byte{b}, 1952), nil, nil, bytes.Repeat([]byte{b}, 3309)); e != api.ErrSig {
			t.Errorf("bytes of %d: error %d", b, e)
		}
	}
}

// P16.3: public keys of any bytes have the right length.
func TestVerifyAnyKey(t *testing.T) {
	draw := rand.New(rand.NewSource(14))
	c := drawnSignature(t, draw)
	for range 20 {
		if e := Verify(drawn(draw, 1952), c.msg, c.ctx, c.sig); e != api.ErrSig {
			t.Errorf("error %d", e)
		}
	}
}

// P16.5: a byte after the positions of the marks must be 0, and a signature with another one is rejected.
func TestPadding(t *testing.T) {
	draw := rand.New(rand.NewSource(15))
	for range 3 {
		c := drawnSignature(t, draw)
		marks := int(c.sig[3308])
		for i := marks; i < 55; i++ {
			if c.sig[3248+i] != 0 {
				t.Fatalf("byte %d after %d positions: %d", i-marks, marks, c.sig[3248+i])
			}
			for n := 1; n < 256; n++ {
				if e := Verify(c.pk, c.msg, c.ctx, changed(c.sig, 3248+i, byte(n))); e != api.ErrSig {
					t.Fatalf("byte %d of %d: error %d", i, n, e)
				}
			}
		}
	}
}

// P16.3: malformed hints: positions that do not ascend, and counts that do not, or are too great.
func TestMalformedHints(t *testing.T) {
	c := drawnSignature(t, rand.New(rand.NewSource(16)))
	hints := c.sig[3248:]
	if hints[55] < 2 {
		t.Fatal("the first hint has too few marks")
	}
	put := func(l ...byte) []byte {
		b := bytes.Clone(c.sig)
		for i := 0; i < len(l); i += 2 {
			b[3248+int(l[i])] = l[i+1]
		}
		return b
	}
	for i, sig := range [][]byte{
		put(0, hints[1], 1, hints[0]),
		put(1, hints[0]),
		put(60, 56), put(60, 255), put(60, hints[60]+1), put(60, hints[60]-1), put(60, hints[59]-1), put(60, 0),
		put(55, hints[56]+1), put(55, 255), put(56, hints[55]-1),
		put(55, 0, 56, 0, 57, 0, 58, 0, 59, 0, 60, 0),
	} {
		if e := Verify(c.pk, c.msg, c.ctx, sig); e != api.ErrSig {
			t.Errorf("%d: error %d", i, e)
		}
	}
}

// forgeable returns a public key with rho and a t1 of zeros: the product with c is 0, so that z may be anything below the limit.
func forgeable(rho []byte) []byte { return refJoin(rho, make([]byte, 1920)) }

// drawnZ returns polynomials with coefficients of 18 bits.
func drawnZ(draw *rand.Rand) (z [5]api.DPoly) {
	for j := range z {
		for i := range z[j] {
			z[j][i] = int32(draw.Intn(1<<18)) - 1<<17
		}
	}
	return z
}

// P16.3: the greatest absolute value of a coefficient of z is 524091.
func TestLimitOfZ(t *testing.T) {
	draw := rand.New(rand.NewSource(17))
	rho := drawn(draw, 32)
	for _, c := range []struct {
		x    int32
		want api.Errno
	}{
		{524091, api.OK}, {-524091, api.OK}, {524092, api.ErrSig}, {-524092, api.ErrSig}, {524093, api.ErrSig}, {524287, api.ErrSig}, {524288, api.ErrSig}, {-524287, api.ErrSig},
	} {
		for j := range 5 {
			for _, i := range []int{0, 1, 128, 255} {
				z := drawnZ(draw)
				z[j][i] = c.x
				sig := refForge(t, rho, []byte("z"), nil, z, make([]api.Hint, 6))
				if e := Verify(forgeable(rho), []byte("z"), nil, sig); e != c.want {
					t.Errorf("coefficient %d of polynomial %d is %d: error %d", i, j, c.x, e)
				}
			}
		}
	}
}

// P16.3: each of up to 55 marks is made use of, wherever it is; the positions' order is fixed.
func TestAnyHints(t *testing.T) {
	draw := rand.New(rand.NewSource(18))
	rho, msg, ctx := drawn(draw, 32), drawn(draw, 9), drawn(draw, 3)
	for marks := 0; marks <= 55; marks += 5 {
		for _, rows := range []int{1, 2, 6} {
			hints := make([]api.Hint, 6)
			for n := 0; n < marks; {
				r, j := draw.Intn(rows), draw.Intn(256)
				if !hints[r][j] {
					hints[r][j] = true
					n++
				}
			}
			sig := refForge(t, rho, msg, ctx, drawnZ(draw), hints)
			if e := Verify(forgeable(rho), msg, ctx, sig); e != api.OK {
				t.Errorf("%d marks in %d hints: error %d", marks, rows, e)
			}
			if rows == 1 && marks > 1 {
				at := 3248 + draw.Intn(marks-1)
				sig[at], sig[at+1] = sig[at+1], sig[at]
				if e := Verify(forgeable(rho), msg, ctx, sig); e != api.ErrSig {
					t.Errorf("%d marks, of which two are exchanged: error %d", marks, e)
				}
			}
		}
	}
}

// R3, R4: arguments stay as they are, and verdicts, too.
func TestVerifyMemory(t *testing.T) {
	c := drawnSignature(t, rand.New(rand.NewSource(19)))
	before := refJoin(c.pk, c.msg, c.ctx, c.sig)
	for range 3 {
		if e := Verify(c.pk, c.msg, c.ctx, c.sig); e != api.OK {
			t.Errorf("error %d", e)
		}
	}
	if !bytes.Equal(refJoin(c.pk, c.msg, c.ctx, c.sig), before) {
		t.Error("the arguments were modified")
	}
}
