package hbs

import (
	"bytes"
	"encoding/hex"
	"math"
	"math/rand"
	"slices"
	"testing"

	"livery/api"
)

var numbers = []uint32{0, 1, 7, 255, 1 << 10, 0x01020304, 1 << 31, math.MaxUint32}

// P12.1: Make derives each field of a draw, and those of the other kind are zero; what is of the other kind does not matter.
func TestMake(t *testing.T) {
	draw := rand.New(rand.NewSource(121))
	for i, h := range hsets() {
		number, d := numbers[i%len(numbers)], drawn(draw)
		for _, x := range append(badCodes(), 1, 21) {
			if s, e := Make(api.HbsHss, h.l, x, number, d); e != api.OK || !equal(s, refHss(t, h, number, d)) || Check(s) != api.OK {
				t.Fatalf("%v, number %d, code %d: %v %d", h, number, x, s, e)
			}
		}
	}
	for i, x := range xsets() {
		number, d := numbers[i%len(numbers)], drawn(draw)
		for _, l := range append(badLevels(), hsetOf(1, 4, 2, 3).l) {
			if s, e := Make(api.HbsXmss, l, x.code, number, d); e != api.OK || !equal(s, refXmss(t, x, number, d)) || Check(s) != api.OK {
				t.Fatalf("%v, number %d, levels %v: %v %d", x, number, l, s, e)
			}
		}
	}
}

// P12.1, P12.2: the encodings of two made keys, of the draw 0, 1, .. 63 and the number 7; what is derived was computed with OpenSSL.
func TestDerived(t *testing.T) {
	const id, seed = "6789f6bf048c38271b822b27", "37220b7fb955369bf56d25ac72db8405eb9a1158763dbec8"
	const prf, pub = "82aecf91ae6f6e6866355d12a76b3af66fe2d6af288f9220", "f587397555d3be64dc5934179d17d32d0d52f400"
	var draw [64]byte
	for i := range draw {
		draw[i] = byte(i)
	}
	for want, kind := range map[string]int{
		"01" + "01" + "f0000011" + "00000007" + "00000007" + id + seed: api.HbsHss,
		"02" + "0000000d" + seed + prf + "00000007" + pub:              api.HbsXmss,
	} {
		s, e := Make(kind, []api.Level{{Lms: api.LmsOwn + 17, Ots: 7}}, 13, 7, draw)
		b, f := Put(s)
		if e != api.OK || f != api.OK || hex.EncodeToString(b) != want {
			t.Errorf("%x, not %s: %d %d", b, want, e, f)
		}
	}
}

// P12.1: each byte of a draw and of a number matters, and nothing else.
func TestMakeDraws(t *testing.T) {
	l := hsetOf(1, 4, 2).l
	for _, kind := range []int{api.HbsHss, api.HbsXmss} {
		var seen []api.Secret
		for i := range 64 {
			var d [64]byte
			d[i] = 1
			s, e := Make(kind, l, 13, 5, d)
			if again, f := Make(kind, l, 13, 5, d); e != api.OK || f != api.OK || !equal(s, again) {
				t.Error(kind, i, e, f)
			}
			seen = append(seen, s)
		}
		for i := range 32 {
			s, e := Make(kind, l, 13, 5^1<<i, [64]byte{1})
			if e != api.OK {
				t.Error(kind, i, e)
			}
			seen = append(seen, s)
		}
		for i, a := range seen {
			for j, b := range seen {
				if i != j && equal(a, b) {
					t.Errorf("kind %d: %d and %d are equal", kind, i, j)
				}
			}
		}
	}
}

// The chapter's example: Pub begins with the number, and so do the bytes of Public from offset 4 + N on.
func TestExample(t *testing.T) {
	s, e := Make(api.HbsXmss, nil, api.XmssOwn+1, 7, [64]byte{})
	if e != api.OK || !bytes.Equal(s.Pub[:4], []byte{0, 0, 0, 7}) {
		t.Error(s, e)
	}
	if pub, e := Public(s); e != api.OK || !bytes.Equal(pub[36:40], []byte{0, 0, 0, 7}) {
		t.Errorf("%x %d", pub, e)
	}
}

// P12.1: Make names the kind first, then what the kind needs.
func TestMakeErrors(t *testing.T) {
	good := hsetOf(0, 4, 1).l
	none := func(kind int, l []api.Level, code uint32, want api.Errno) {
		t.Helper()
		if s, e := Make(kind, l, code, 1, [64]byte{1}); e != want || !isZero(s) {
			t.Errorf("kind %d, levels %v, code %d: %v %d", kind, l, code, s, e)
		}
	}
	for _, kind := range badKinds() {
		none(kind, good, 1, api.ErrArg)
		none(kind, nil, 1, api.ErrArg)
		none(kind, good, 0, api.ErrArg)
		none(kind, nil, 0, api.ErrArg)
	}
	for _, l := range badLevels() {
		none(api.HbsHss, l, 1, api.ErrLevels)
		none(api.HbsHss, l, 0, api.ErrLevels)
	}
	for _, code := range badCodes() {
		none(api.HbsXmss, good, code, api.ErrCode)
		none(api.HbsXmss, nil, code, api.ErrCode)
	}
}

// P12.1: Check accepts what is valid, whatever the bytes are.
func TestCheck(t *testing.T) {
	draw := rand.New(rand.NewSource(122))
	for _, s := range secrets(draw) {
		if e := Check(s); e != api.OK {
			t.Errorf("%v: %d", s, e)
		}
		zeros := api.Secret{Kind: s.Kind, Levels: s.Levels, Xmss: s.Xmss, Seed: make([]byte, len(s.Seed)), Prf: make([]byte, len(s.Prf)), Pub: make([]byte, len(s.Pub))}
		if e := Check(zeros); e != api.OK {
			t.Errorf("zeros for %v: %d", s, e)
		}
	}
}

// P12.1 to P12.3: what is not valid is ErrSecret, and a kind that is neither ErrArg, for all functions of secrets; its Len is 0.
func TestNotValid(t *testing.T) {
	draw := rand.New(rand.NewSource(123))
	no := func(s api.Secret, want api.Errno, what string) {
		t.Helper()
		for _, c := range calls() {
			if zero, e := c.result(s); e != want || !zero {
				t.Fatalf("%s, %s: %d, zero %v, of %v", c.name, what, e, zero, s)
			}
		}
		if n := Len(s); n != 0 {
			t.Fatalf("%s: length %d, of %v", what, n, s)
		}
	}
	for _, s := range secrets(draw) {
		for what, c := range changed(s) {
			no(c, api.ErrSecret, what)
			for _, kind := range badKinds() {
				c.Kind = kind
				no(c, api.ErrArg, what)
			}
		}
		for _, kind := range badKinds() {
			s.Kind = kind
			no(s, api.ErrArg, "kind")
		}
	}
	no(api.Secret{}, api.ErrArg, "zero")
	no(api.Secret{Kind: 1}, api.ErrSecret, "only HSS")
	no(api.Secret{Kind: 2}, api.ErrSecret, "only XMSS")
}

// P12.1: Same tells whether all fields are equal, valid or not.
func TestSame(t *testing.T) {
	draw := rand.New(rand.NewSource(124))
	all := append(secrets(draw), api.Secret{}, api.Secret{Kind: -1}, api.Secret{Kind: 1}, api.Secret{Kind: 2})
	for _, s := range secrets(draw)[:1] {
		for _, c := range changed(s) {
			all = append(all, c)
		}
	}
	for i, a := range all {
		for j, b := range all {
			if Same(a, b) != equal(a, b) || i == j && !Same(a, cloned(b)) {
				t.Fatalf("%v %v: %v", a, b, Same(a, b))
			}
		}
	}
	for _, s := range all {
		full := cloned(s)
		full.Levels = append(full.Levels, level(0, 1, 4))
		full.Seed, full.Prf, full.Pub = append(full.Seed, 1), append(full.Prf, 2), append(full.Pub, 3)
		for what, c := range others(full) {
			if Same(full, c) || Same(c, full) {
				t.Fatalf("%s: %v is the same as %v", what, c, full)
			}
		}
	}
}

// others are secrets that differ from s, which has something in all fields, in one field each.
func others(s api.Secret) map[string]api.Secret {
	all := map[string]api.Secret{}
	put := func(name string, change func(s *api.Secret)) {
		c := cloned(s)
		change(&c)
		all[name] = c
	}
	put("kind", func(c *api.Secret) { c.Kind++ })
	put("code", func(c *api.Secret) { c.Xmss ^= 1 << 31 })
	last := len(s.Levels) - 1
	put("last Lms", func(c *api.Secret) { c.Levels[last].Lms++ })
	put("last Ots", func(c *api.Secret) { c.Levels[last].Ots++ })
	put("first Lms", func(c *api.Secret) { c.Levels[0].Lms ^= 1 << 24 })
	put("levels without the last", func(c *api.Secret) { c.Levels = c.Levels[:last] })
	put("no levels", func(c *api.Secret) { c.Levels = nil })
	for i := range s.Id {
		put("byte of Id "+string(rune('a'+i)), func(c *api.Secret) { c.Id[i] ^= 128 })
	}
	for name, field := range map[string]func(s *api.Secret) *[]byte{
		"Seed": func(s *api.Secret) *[]byte { return &s.Seed },
		"Prf":  func(s *api.Secret) *[]byte { return &s.Prf },
		"Pub":  func(s *api.Secret) *[]byte { return &s.Pub },
	} {
		put(name+" first", func(c *api.Secret) { (*field(c))[0] ^= 1 })
		put(name+" last", func(c *api.Secret) { b := *field(c); b[len(b)-1] ^= 1 })
		put(name+" shorter", func(c *api.Secret) { b := *field(c); *field(c) = b[:len(b)-1] })
		put(name+" longer", func(c *api.Secret) { *field(c) = append(*field(c), 0) })
		put(name+" empty", func(c *api.Secret) { *field(c) = nil })
	}
	return all
}

// P12.2, P12.7: Put returns the encoding, and Get the secrets that have it.
func TestPutGet(t *testing.T) {
	draw := rand.New(rand.NewSource(125))
	for range 3 {
		for _, s := range secrets(draw) {
			b, e := Put(s)
			if e != api.OK || !bytes.Equal(b, refPut(s)) || len(b) > api.MaxMaterial {
				t.Errorf("%v: %x %d", s, b, e)
			}
			got, e := Get(b)
			if e != api.OK || !equal(got, s) || !Same(got, s) {
				t.Errorf("%v: %v %d", s, got, e)
			}
			if again, e := Put(got); e != api.OK || !bytes.Equal(again, b) {
				t.Errorf("%x: %x %d", b, again, e)
			}
		}
	}
}

// checkNot checks that b is nobody's encoding.
func checkNot(t *testing.T, b []byte, what string) {
	t.Helper()
	if s, e := Get(b); e != api.ErrSecret || !isZero(s) {
		t.Errorf("%s, %x: %v %d", what, b, s, e)
	}
}

// P12.2: an encoding that is cut, or longer, or of another kind, is ErrSecret.
func TestGetSizes(t *testing.T) {
	draw := rand.New(rand.NewSource(126))
	checkNot(t, nil, "nothing")
	for _, s := range secrets(draw) {
		b := refPut(s)
		for n := range b {
			checkNot(t, slices.Clip(b[:n]), "cut")
		}
		for _, n := range []int{1, 4, 8, 24, 32, 1 << 10} {
			checkNot(t, slices.Concat(b, make([]byte, n)), "longer")
			checkNot(t, slices.Concat(b, some(draw, n)), "longer")
			checkNot(t, slices.Concat(make([]byte, n), b), "behind zeros")
		}
		checkNot(t, slices.Concat(b, b), "twice")
		checkNot(t, b[1:], "without the kind")
		for kind := range 256 {
			if kind != s.Kind {
				checkNot(t, slices.Concat([]byte{byte(kind)}, b[1:]), "another kind")
			}
		}
	}
	for n := range 300 {
		checkNot(t, make([]byte, n), "zeros")
		for kind := range 5 {
			checkNot(t, append([]byte{byte(kind)}, make([]byte, n)...), "kind and zeros")
			checkNot(t, append([]byte{byte(kind)}, bytes.Repeat([]byte{255}, n)...), "kind and 255")
		}
	}
}

// P12.2: what is encoded like secrets but is not valid is ErrSecret.
func TestGetNotValid(t *testing.T) {
	draw := rand.New(rand.NewSource(127))
	for n := range 256 {
		for _, h := range hsets()[:4] {
			b := slices.Concat([]byte{1, byte(n)}, refPut(api.Secret{Levels: slices.Repeat(h.l, n)})[2:], make([]byte, bytesOf(h.family)))
			fits := 1 <= n && n <= 8 && n*h.sum() <= 60
			if s, e := Get(b); fits != (e == api.OK) || e != api.OK && e != api.ErrSecret || fits && !slices.Equal(s.Levels, slices.Repeat(h.l, n)) {
				t.Errorf("%d times %v: %v %d", n, h.heights, s, e)
			}
		}
	}
	for _, l := range badLevels() {
		for _, n := range []int{0, 24, 32} {
			checkNot(t, refPut(api.Secret{Kind: 1, Levels: l, Id: [16]byte(some(draw, 16)), Seed: some(draw, n)}), "no levels")
		}
	}
	for _, code := range badCodes() {
		for _, n := range []int{0, 24, 32} {
			checkNot(t, refPut(api.Secret{Kind: 2, Xmss: code, Seed: some(draw, n), Prf: some(draw, n), Pub: some(draw, n)}), "no code")
		}
	}
}

// P12.2, P12.7: whatever the bytes are, they are the encoding of what Get returns, or there is nothing that they encode.
func TestGetChanged(t *testing.T) {
	draw := rand.New(rand.NewSource(128))
	found := 0
	for _, s := range secrets(draw) {
		b := refPut(s)
		for at := range b {
			c := bytes.Clone(b)
			c[at] ^= 1 << draw.Intn(8)
			got, e := Get(c)
			switch {
			case e == api.ErrSecret && isZero(got):
			case e == api.OK && Check(got) == api.OK && bytes.Equal(refPut(got), c):
				found++
			default:
				t.Errorf("%x: %v %d", c, got, e)
			}
			if body := len(b) - 16 - len(s.Seed); s.Kind == 1 && at >= body && e != api.OK || s.Kind == 2 && at >= 5 && e != api.OK {
				t.Errorf("%x: %d", c, e)
			}
		}
	}
	if found == 0 {
		t.Error("nothing was found")
	}
}

// R3, R6: what is returned shares nothing with what is given, nor its parts with each other; arguments stay as they are.
func TestMemory(t *testing.T) {
	draw := rand.New(rand.NewSource(129))
	l := hsetOf(1, 4, 1, 2).l
	given := slices.Clone(l)
	s, e := Make(api.HbsHss, given, 0, 1, [64]byte{1})
	given[0].Lms = 0
	if e != api.OK || !slices.Equal(s.Levels, l) {
		t.Error(s.Levels, e)
	}
	s.Levels[1].Ots = 0
	if given[1] != l[1] {
		t.Error(given)
	}
	for _, s := range secrets(draw) {
		was := cloned(s)
		b, e := Put(s)
		f := Check(s)
		if Len(s) == 0 || e != api.OK || f != api.OK || !equal(s, was) {
			t.Fatal(s, e, f)
		}
		for i := range b {
			b[i] ^= 255
		}
		if !equal(s, was) {
			t.Fatal(s)
		}
		checkParts(t, s)
	}
}

// checkParts checks that the parts of what Get returns can be changed without changing the bytes, or each other.
func checkParts(t *testing.T, s api.Secret) {
	t.Helper()
	b := refPut(s)
	was := bytes.Clone(b)
	got, e := Get(b)
	if e != api.OK {
		t.Fatal(e)
	}
	for i := range b {
		b[i] ^= 255
	}
	if !equal(got, s) {
		t.Fatal("the bytes are kept")
	}
	b = bytes.Clone(was)
	got, _ = Get(b)
	for _, part := range []*[]byte{&got.Seed, &got.Prf, &got.Pub} {
		_ = append(*part, 255, 255)
		if !equal(got, s) {
			t.Fatal("parts share memory")
		}
	}
	for _, part := range [][]byte{got.Seed, got.Prf, got.Pub} {
		for i := range part {
			part[i] ^= 255
		}
	}
	if !bytes.Equal(b, was) {
		t.Fatal("the bytes are shared")
	}
}

// R6: an empty slice is as good as nil.
func TestEmpty(t *testing.T) {
	draw := rand.New(rand.NewSource(130))
	for _, s := range secrets(draw) {
		c := cloned(s)
		for _, part := range []*[]byte{&c.Seed, &c.Prf, &c.Pub} {
			if len(*part) == 0 {
				*part = []byte{}
			}
		}
		if len(c.Levels) == 0 {
			c.Levels = []api.Level{}
		}
		b, e := Put(s)
		again, f := Put(c)
		if !Same(s, c) || !Same(c, s) || Check(c) != api.OK || e != api.OK || f != api.OK || !bytes.Equal(b, again) || Len(s) != Len(c) {
			t.Errorf("%v %v", s, c)
		}
	}
	checkNot(t, []byte{}, "nothing")
	if Kind([]byte{}) != Kind(nil) {
		t.Error("Kind")
	}
}
