package sha2

import (
	"bytes"
	"crypto/hkdf"
	"crypto/hmac"
	"crypto/sha256"
	"encoding/hex"
	"math"
	"math/rand"
	"strings"
	"testing"

	"livery/api"
)

func unhex(t *testing.T, text string) []byte {
	t.Helper()
	b, err := hex.DecodeString(text)
	if err != nil {
		t.Fatal(err)
	}
	return b
}

// libraryMac is Mac by the library.
func libraryMac(key []byte, parts ...[]byte) [32]byte {
	h := hmac.New(sha256.New, key)
	for _, p := range parts {
		h.Write(p)
	}
	return [32]byte(h.Sum(nil))
}

// P2.3: the examples of RFC 4231.
func TestMacKnown(t *testing.T) {
	for _, c := range []struct{ key, text, want string }{
		{strings.Repeat("\x0b", 20), "Hi There", "b0344c61d8db38535ca8afceaf0bf12b881dc200c9833da726e9376c2e32cff7"},
		{"Jefe", "what do ya want for nothing?", "5bdcc146bf60754e6a042426089575c75a003f089d2739839dec58b964ec3843"},
		{strings.Repeat("\xaa", 20), strings.Repeat("\xdd", 50), "773ea91e36800e46854db8ebd09181a72959098b3ef8c122d9635514ced565fe"},
		{strings.Repeat("\xaa", 131), "Test Using Larger Than Block-Size Key - Hash Key First", "60e431591ee0b67f0d8a26aacbf5b77f8e0bc6213728c5140546040f0ee37f54"},
	} {
		m := Mac([]byte(c.key), []byte(c.text))
		if hex.EncodeToString(m[:]) != c.want {
			t.Errorf("Mac(%q, %q): %x", c.key, c.text, m)
		}
	}
}

// P2.3, P2.4: keys of each length around a block, parts split in any way.
func TestMac(t *testing.T) {
	draw := rand.New(rand.NewSource(5))
	for size := range 200 {
		key, b := drawn(draw, size), drawn(draw, draw.Intn(300))
		want := libraryMac(key, b)
		if m := Mac(key, b); m != want {
			t.Errorf("a key of %d bytes, a text of %d: %x, and not %x", size, len(b), m, want)
		}
		if Mac(key, split(draw, b)...) != want {
			t.Errorf("a key of %d bytes, a text of %d, split", size, len(b))
		}
	}
	if Mac(nil) != libraryMac(nil) || Mac(nil, nil) != Mac(nil) || Mac([]byte{}, []byte{}, nil) != Mac(nil) {
		t.Error("nothing is not nothing")
	}
	if Mac([]byte("a"), []byte("b"), []byte("c")) == Mac([]byte("a"), []byte("c"), []byte("b")) {
		t.Error("the order does not matter")
	}
}

// P2.6: a key up to a block is padded with zero bytes, a longer one is hashed.
func TestMacKeys(t *testing.T) {
	draw := rand.New(rand.NewSource(6))
	text := []byte("text")
	for size := range 200 {
		key := drawn(draw, size)
		want := Mac(key, text)
		if size > 64 {
			s := Sum256(key)
			key = s[:]
			if Mac(key, text) != want {
				t.Errorf("the hash of a key of %d bytes", size)
			}
		}
		for n := len(key); n <= 64; n++ {
			if padded := append(bytes.Clone(key), make([]byte, n-len(key))...); Mac(padded, text) != want {
				t.Errorf("a key of %d bytes, padded to %d", size, n)
			}
		}
	}
	if Mac(make([]byte, 65), text) == Mac(make([]byte, 64), text) {
		t.Error("65 zero bytes are as 64")
	}
}

// P2.3: a long salt is hashed, as a key is; an empty one stands for 32 zero bytes.
func TestExtract(t *testing.T) {
	draw := rand.New(rand.NewSource(7))
	for size := range 100 {
		salt, ikm := drawn(draw, size), drawn(draw, draw.Intn(100))
		want, err := hkdf.Extract(sha256.New, ikm, salt)
		if err != nil {
			t.Fatal(err)
		}
		if prk := Extract(salt, ikm); !bytes.Equal(prk[:], want) || prk != Mac(salt, ikm) {
			t.Errorf("a salt of %d bytes, %d bytes: %x", size, len(ikm), prk)
		}
	}
	ikm := []byte("ikm")
	zeros := Extract(make([]byte, 32), ikm)
	if Extract(nil, ikm) != zeros || Extract([]byte{}, ikm) != zeros {
		t.Error("an empty salt is not 32 zero bytes")
	}
	if Extract(nil, nil) != Extract([]byte{}, []byte{}) || Extract([]byte("a"), []byte("b")) == Extract([]byte("b"), []byte("a")) {
		t.Error("salt and ikm")
	}
}

// P2.3: the examples of RFC 5869 that use SHA-256.
func TestHkdfKnown(t *testing.T) {
	var long [80]byte
	for i := range long {
		long[i] = byte(i)
	}
	var salt, info [80]byte
	for i := range salt {
		salt[i], info[i] = long[i]+0x60, long[i]+0xb0
	}
	for _, c := range []struct {
		ikm, salt, info []byte
		n               int
		prk, okm        string
	}{
		{
			bytes.Repeat([]byte{0x0b}, 22), unhex(t, "000102030405060708090a0b0c"), unhex(t, "f0f1f2f3f4f5f6f7f8f9"), 42,
			"077709362c2e32df0ddc3f0dc47bba6390b6c73bb50f9c3122ec844ad7c2b3e5",
			"3cb25f25faacd57a90434f64d0362f2a2d2d0a90cf1a5a4c5db02d56ecc4c5bf34007208d5b887185865",
		},
		{
			long[:], salt[:], info[:], 82,
			"06a6b88c5853361a06104c9ceb35b45cef760014904671014a193f40c15fc244",
			"b11e398dc80327a1c8e7f78c596a49344f012eda2d4efad8a050cc4c19afa97c59045a99cac7827271cb41c65e590e09da3275600c2f09b8367793a9aca3db71cc30c58179ec3e87c14c01d5c1f3434f1d87",
		},
		{
			bytes.Repeat([]byte{0x0b}, 22), nil, nil, 42,
			"19ef24a32c717b167f33a91d6f648bdf96596776afdb6377ac434c1c293ccb04",
			"8da4e775a563c18f715f802a063c5a31b8a11f5c5ee1879ec3454e5f3c738d2d9d201395faa4b61a96c8",
		},
	} {
		prk := Extract(c.salt, c.ikm)
		okm, e := Expand(prk[:], c.info, c.n)
		if hex.EncodeToString(prk[:]) != c.prk || hex.EncodeToString(okm) != c.okm || e != api.OK {
			t.Errorf("%x, %x, %d", prk, okm, e)
		}
	}
}

// P2.3: lengths around the ends of the T(i), and the greatest.
func TestExpand(t *testing.T) {
	draw := rand.New(rand.NewSource(8))
	for _, n := range []int{0, 1, 31, 32, 33, 63, 64, 65, 95, 96, 97, 1000, 4096, api.MaxExpand - 33, api.MaxExpand - 32, api.MaxExpand - 31, api.MaxExpand - 1, api.MaxExpand} {
		for _, size := range []int{0, 1, 32, 64, 65, 100} {
			prk, info := drawn(draw, size), drawn(draw, draw.Intn(100))
			want, err := hkdf.Expand(sha256.New, prk, string(info), n)
			if err != nil {
				t.Fatal(err)
			}
			if okm, e := Expand(prk, info, n); e != api.OK || len(okm) != n || !bytes.Equal(okm, want) {
				t.Errorf("%d bytes of a key of %d: %x %d", n, size, okm, e)
			}
		}
	}
	nothing, e := Expand(nil, nil, 40)
	if empty, f := Expand([]byte{}, []byte{}, 40); e != api.OK || f != api.OK || !bytes.Equal(nothing, empty) {
		t.Error(nothing, empty)
	}
}

// P2.3: lengths that are too small or too great.
func TestExpandErrors(t *testing.T) {
	for _, c := range []struct {
		n int
		e api.Errno
	}{
		{-1, api.ErrArg},
		{-32, api.ErrArg},
		{-api.MaxExpand - 1, api.ErrArg},
		{math.MinInt, api.ErrArg},
		{api.MaxExpand + 1, api.ErrLong},
		{api.MaxExpand + 32, api.ErrLong},
		{1 << 32, api.ErrLong},
		{math.MaxInt, api.ErrLong},
	} {
		for _, b := range [][]byte{nil, []byte("abc")} {
			if okm, e := Expand(b, b, c.n); e != c.e || okm != nil {
				t.Errorf("%d bytes: %v %d", c.n, okm, e)
			}
		}
	}
}

// P2.5: a shorter result is a prefix of a longer one.
func TestExpandPrefixes(t *testing.T) {
	prk, info := []byte("a pseudorandom key"), []byte("info")
	long, e := Expand(prk, info, api.MaxExpand)
	if e != api.OK {
		t.Fatal(e)
	}
	for n := 0; n <= api.MaxExpand; n += 1 + n/40 {
		if okm, e := Expand(prk, info, n); e != api.OK || len(okm) != n || !bytes.HasPrefix(long, okm) {
			t.Errorf("%d bytes: %x %d", n, okm, e)
		}
	}
}

// R3: arguments are as they were, also beyond their lengths, and results are new memory.
func TestMacKeepsArguments(t *testing.T) {
	for _, size := range []int{10, 64, 100} {
		whole := bytes.Repeat([]byte("k"), 2*size)
		key := whole[:size]
		Mac(key, key, key)
		Extract(key, key)
		okm, _ := Expand(key, key, 100)
		clear(okm[:cap(okm)])
		if !bytes.Equal(whole, bytes.Repeat([]byte("k"), 2*size)) {
			t.Errorf("%d bytes: %q", size, whole)
		}
		again, _ := Expand(key, key, 100)
		if bytes.Equal(again, okm) {
			t.Error("a result is kept")
		}
	}
}
