package hbs

import (
	"bytes"
	"encoding/binary"
	"math"
	"math/rand"
	"slices"
	"testing"

	"livery/api"
	"livery/hss"
	"livery/param"
	"livery/xmss"
)

// P12.3: Count is 2 to the heights of all trees, and Len what layers 9 and 6 say.
func TestCountLen(t *testing.T) {
	draw := rand.New(rand.NewSource(131))
	for _, h := range hsets() {
		s := api.Secret{Kind: 1, Levels: h.l, Seed: some(draw, bytesOf(h.family))}
		if n, e := Count(s); e != api.OK || n != 1<<h.sum() {
			t.Errorf("%v: %d %d", h, n, e)
		}
		if n := Len(s); n != hss.Len(h.l) || n == 0 {
			t.Errorf("%v: length %d", h, n)
		}
	}
	for _, x := range xsets() {
		n := bytesOf(x.family)
		s := api.Secret{Kind: 2, Xmss: x.code, Seed: some(draw, n), Prf: some(draw, n), Pub: some(draw, n)}
		if n, e := Count(s); e != api.OK || n != 1<<x.h {
			t.Errorf("%v: %d %d", x, n, e)
		}
		chains := 67 - x.family%2*16
		if size := Len(s); size != 4+n+(chains+x.h)*n {
			t.Errorf("%v: length %d", x, size)
		}
	}
}

// refPublic is the public key of secrets, and refSign the signature of a message, of layers 9 and 11.
func refPublic(t *testing.T, s api.Secret) []byte {
	t.Helper()
	pub, e := hss.Public(s.Levels, s.Id, s.Seed)
	if s.Kind == 2 {
		x, _ := param.Xmss(s.Xmss)
		pub, e = xmss.Public(x, api.XmssKey{Seed: s.Seed, Prf: s.Prf, Pub: s.Pub})
	}
	if e != api.OK {
		t.Fatal(s, e)
	}
	return pub
}

func refSign(t *testing.T, s api.Secret, index uint64, msg []byte) []byte {
	t.Helper()
	sig, e := hss.Sign(s.Levels, s.Id, s.Seed, index, msg)
	if s.Kind == 2 {
		x, _ := param.Xmss(s.Xmss)
		sig, e = xmss.Sign(x, api.XmssKey{Seed: s.Seed, Prf: s.Prf, Pub: s.Pub}, uint32(index), msg)
	}
	if e != api.OK {
		t.Fatal(s, e)
	}
	return sig
}

// P12.3 to P12.5: Public and Sign are those of layers 9 and 11; each signature verifies, and has its length and its index.
func TestSign(t *testing.T) {
	draw := rand.New(rand.NewSource(132))
	for height, all := range quick(draw) {
		for _, s := range all {
			was := cloned(s)
			pub, e := Public(s)
			if e != api.OK || !bytes.Equal(pub, refPublic(t, s)) || Kind(pub) != s.Kind {
				t.Fatalf("%v: %x %d", s, pub, e)
			}
			for index := range uint64(1) << height {
				msg := some(draw, draw.Intn(80))
				said := bytes.Clone(msg)
				sig, e := Sign(s, index, msg)
				if e != api.OK || !bytes.Equal(sig, refSign(t, s, index, said)) || len(sig) != Len(s) {
					t.Fatalf("%v, index %d: %x %d", s, index, sig, e)
				}
				keyWas, sigWas := bytes.Clone(pub), bytes.Clone(sig)
				if e := Verify(pub, msg, sig); e != api.OK {
					t.Errorf("%v, index %d: %d", s, index, e)
				}
				if i, e := Index(pub, sig); e != api.OK || i != index {
					t.Errorf("%v, index %d: %d %d", s, index, i, e)
				}
				if !bytes.Equal(msg, said) || !bytes.Equal(pub, keyWas) || !bytes.Equal(sig, sigWas) || !equal(s, was) {
					t.Fatalf("%v, index %d: changed", s, index)
				}
			}
		}
	}
}

// P12.3: Sign returns ErrIndex for an index that is not less than Count, and builds no tree for it.
func TestNoIndex(t *testing.T) {
	draw := rand.New(rand.NewSource(133))
	for _, s := range secrets(draw) {
		n, e := Count(s)
		if e != api.OK {
			t.Fatal(s, e)
		}
		for _, index := range []uint64{n, n + 1, 2 * n, 1 << 32, 1<<32 + 1, 1 << 60, 1 << 63, math.MaxUint64} {
			if index < n {
				continue
			}
			if sig, e := Sign(s, index, []byte("m")); e != api.ErrIndex || sig != nil {
				t.Errorf("%v, index %d of %d: %x %d", s, index, n, sig, e)
			}
		}
	}
}

// P12.4: the kind is XMSS if the code and the length are, and otherwise HSS, whatever that is.
func TestKind(t *testing.T) {
	draw := rand.New(rand.NewSource(134))
	for _, x := range xsets() {
		size := 4 + 2*bytesOf(x.family)
		for n := range 100 {
			want := api.HbsHss
			if n == size {
				want = api.HbsXmss
			}
			if n >= 4 {
				pub := slices.Concat(u32(x.code), some(draw, n-4))
				if k := Kind(pub); k != want {
					t.Errorf("%v, %d bytes: %d", x, n, k)
				}
			}
		}
	}
	for n := range 100 {
		for _, code := range append(badCodes(), 6, 7, 8) {
			if k := Kind(slices.Concat(u32(code), make([]byte, n))); k != api.HbsHss {
				t.Errorf("%d, %d bytes: %d", code, n, k)
			}
		}
		if k := Kind(slices.Clip(slices.Concat(u32(13), make([]byte, 60))[:n%4])); k != api.HbsHss {
			t.Errorf("%d bytes: %d", n%4, k)
		}
	}
}

// P12.4: HSS with as many levels as a code of XMSS is HSS nevertheless.
func TestKindHss(t *testing.T) {
	draw := rand.New(rand.NewSource(135))
	for _, h := range hsets() {
		pub := slices.Concat(u32(uint32(len(h.l))), u32(h.l[0].Lms), u32(h.l[0].Ots), some(draw, 16+bytesOf(h.family)))
		if k := Kind(pub); k != api.HbsHss {
			t.Errorf("%v: %d", h, k)
		}
	}
}

// P12.4: Number returns four bytes of a public key, which depend on its kind, and ErrPub for fewer than 52.
func TestNumber(t *testing.T) {
	draw := rand.New(rand.NewSource(136))
	for _, x := range xsets() {
		n := bytesOf(x.family)
		pub := slices.Concat(u32(x.code), some(draw, 2*n))
		if number, e := Number(pub); e != api.OK || number != binary.BigEndian.Uint32(pub[4+n:]) {
			t.Errorf("%v, %x: %d %d", x, pub, number, e)
		}
		for size := range 100 {
			b := slices.Concat(u32(x.code), some(draw, 100))[:size]
			number, e := Number(slices.Clip(b))
			switch {
			case size < 52:
				if e != api.ErrPub || number != 0 {
					t.Errorf("%x: %d %d", b, number, e)
				}
			case size != 4+2*n:
				if e != api.OK || number != binary.BigEndian.Uint32(b[12:]) {
					t.Errorf("%x: %d %d", b, number, e)
				}
			}
		}
	}
	for size := range 200 {
		b := some(draw, size)
		number, e := Number(b)
		if size < 52 && (e != api.ErrPub || number != 0) || size >= 52 && (e != api.OK || number != binary.BigEndian.Uint32(b[12:])) {
			t.Errorf("%x: %d %d", b, number, e)
		}
	}
	if number, e := Number(nil); e != api.ErrPub || number != 0 {
		t.Error(number, e)
	}
}

// P12.4: Index and Verify are those of layer 9, or 11, with their errors, according to the kind alone.
func TestIndexVerify(t *testing.T) {
	draw := rand.New(rand.NewSource(137))
	var pubs, sigs [][]byte
	for _, all := range quick(draw) {
		for _, s := range all {
			pub, sig := refPublic(t, s), refSign(t, s, 1, []byte("m"))
			pubs = append(pubs, pub, pub[:len(pub)-1], pub[4:], slices.Concat(pub, pub[:1]), slices.Concat([]byte{255}, pub[1:]))
			sigs = append(sigs, sig, sig[:len(sig)-1], slices.Concat(sig, []byte{0}), slices.Concat([]byte{0, 0, 1}, sig[3:]), slices.Concat(sig[:8], []byte{sig[8] + 1}, sig[9:]))
		}
	}
	pubs, sigs = append(pubs, nil, make([]byte, 3), make([]byte, 52), make([]byte, 68)), append(sigs, nil, make([]byte, 3), make([]byte, 2000))
	for _, pub := range pubs {
		for _, sig := range sigs {
			index, e := hss.Index(pub, sig)
			f := hss.Verify(pub, []byte("m"), sig)
			if Kind(pub) == api.HbsXmss {
				x, _ := param.Xmss(binary.BigEndian.Uint32(pub))
				var i uint32
				i, e = xmss.Index(x, sig)
				index, f = uint64(i), xmss.Verify(pub, []byte("m"), sig)
			}
			if i, g := Index(pub, sig); i != index || g != e {
				t.Errorf("%x, %x: index %d %d, not %d %d", pub, sig, i, g, index, e)
			}
			if g := Verify(pub, []byte("m"), sig); g != f {
				t.Errorf("%x, %x: %d, not %d", pub, sig, g, f)
			}
		}
	}
}

// P12.4: what is changed does not verify; of an unknown public key it is ErrPub.
func TestVerifyChanged(t *testing.T) {
	draw := rand.New(rand.NewSource(138))
	for _, s := range quick(draw)[2] {
		pub, sig := refPublic(t, s), refSign(t, s, 3, []byte("m"))
		for range 20 {
			c := bytes.Clone(sig)
			c[draw.Intn(len(c))] ^= 1 << draw.Intn(8)
			if e := Verify(pub, []byte("m"), c); e != api.ErrSig {
				t.Errorf("%v: %d", s, e)
			}
		}
		for _, msg := range []string{"", "n", "mm"} {
			if e := Verify(pub, []byte(msg), sig); e != api.ErrSig {
				t.Errorf("%v, %q: %d", s, msg, e)
			}
		}
		for _, p := range [][]byte{nil, pub[:len(pub)-1], slices.Concat(pub, []byte{0}), slices.Concat(u32(99), pub[4:])} {
			if e := Verify(p, []byte("m"), sig); e != api.ErrPub {
				t.Errorf("%v, %x: %d", s, p, e)
			}
			if i, e := Index(p, sig); e != api.ErrPub || i != 0 {
				t.Errorf("%v, %x: %d %d", s, p, i, e)
			}
		}
		if i, e := Index(pub, nil); e != api.ErrSig || i != 0 {
			t.Errorf("%v: %d %d", s, i, e)
		}
	}
}

// P12.6: the public key of a made key has its number; keys with different numbers have different ones, even of one draw, or of another kind.
func TestNumbers(t *testing.T) {
	draw := rand.New(rand.NewSource(139))
	seen := map[string]uint32{}
	for _, number := range numbers {
		for _, d := range [][64]byte{{}, drawn(draw)} {
			for f := range 4 {
				made := []api.Secret{refXmss(t, xset{uint32(api.XmssOwn + 16*f + 1), f, 1}, number, d)}
				for _, h := range []hset{hsetOf(f, 4, 1), hsetOf(f, 4, 2), hsetOf(f, 4, 1, 1)} {
					made = append(made, refHss(t, h, number, d))
				}
				for _, s := range made {
					checkNumber(t, s, number, d, seen)
				}
			}
		}
	}
}

// checkNumber checks the public key of what Make returns for the fields of s, and that none of another number was seen that is equal.
func checkNumber(t *testing.T, s api.Secret, number uint32, draw [64]byte, seen map[string]uint32) {
	t.Helper()
	made, e := Make(s.Kind, s.Levels, s.Xmss, number, draw)
	if e != api.OK || !equal(made, s) {
		t.Fatalf("%v %v %d", made, s, e)
	}
	pub, e := Public(made)
	if e != api.OK || Kind(pub) != s.Kind {
		t.Fatalf("%v: %x %d", s, pub, e)
	}
	if n, e := Number(pub); e != api.OK || n != number {
		t.Errorf("%v: number %d %d", s, n, e)
	}
	if n, ok := seen[string(pub)]; ok && n != number {
		t.Errorf("%d and %d have the public key %x", n, number, pub)
	}
	seen[string(pub)] = number
}

// R3, R4: a public key, and a signature, can be changed, and are the same when made again.
func TestAgain(t *testing.T) {
	draw := rand.New(rand.NewSource(140))
	for _, s := range quick(draw)[1] {
		pub, e := Public(s)
		sig, f := Sign(s, 1, []byte("m"))
		if e != api.OK || f != api.OK {
			t.Fatal(s, e, f)
		}
		pubWas, sigWas, was := bytes.Clone(pub), bytes.Clone(sig), cloned(s)
		clear(pub)
		clear(sig)
		pub, _ = Public(s)
		sig, _ = Sign(s, 1, []byte("m"))
		if !bytes.Equal(pub, pubWas) || !bytes.Equal(sig, sigWas) || !equal(s, was) {
			t.Error(s)
		}
	}
}
