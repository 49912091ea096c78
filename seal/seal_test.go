package seal

import (
	"bytes"
	"crypto/hkdf"
	"crypto/hmac"
	"crypto/sha256"
	"encoding/binary"
	"encoding/hex"
	"math"
	"math/rand"
	"testing"

	"livery/api"
)

// drawn returns size bytes.
func drawn(draw *rand.Rand, size int) []byte {
	b := make([]byte, size)
	draw.Read(b)
	return b
}

// drawnKey returns a key and a nonce.
func drawnKey(draw *rand.Rand) ([32]byte, [12]byte) {
	return [32]byte(drawn(draw, 32)), [12]byte(drawn(draw, 12))
}

// libraryMac is the MAC by the library.
func libraryMac(key []byte, parts ...[]byte) []byte {
	h := hmac.New(sha256.New, key)
	for _, p := range parts {
		h.Write(p)
	}
	return h.Sum(nil)
}

// libraryKeys is Keys by the library.
func libraryKeys(t *testing.T, key [32]byte) ([]byte, []byte) {
	t.Helper()
	enc, err := hkdf.Expand(sha256.New, key[:], "livery enc", 32)
	if err != nil {
		t.Fatal(err)
	}
	mac, err := hkdf.Expand(sha256.New, key[:], "livery mac", 32)
	if err != nil {
		t.Fatal(err)
	}
	return enc, mac
}

// libraryStream is the first n bytes of the stream by the library.
func libraryStream(enc []byte, nonce [12]byte, n int) []byte {
	var s []byte
	for i := uint32(0); len(s) < n; i++ {
		s = append(s, libraryMac(enc, nonce[:], binary.BigEndian.AppendUint32(nil, i))...)
	}
	return s[:n]
}

// libraryTag is Tag by the library.
func libraryTag(mac []byte, nonce [12]byte, ad, text []byte) []byte {
	length := func(b []byte) []byte { return binary.BigEndian.AppendUint64(nil, uint64(len(b))) }
	return libraryMac(mac, nonce[:], length(ad), ad, length(text), text)
}

// librarySeal is Seal by the library.
func librarySeal(t *testing.T, key [32]byte, nonce [12]byte, ad, plain []byte) []byte {
	t.Helper()
	enc, mac := libraryKeys(t, key)
	text := libraryStream(enc, nonce, len(plain))
	for i, b := range plain {
		text[i] ^= b
	}
	return append(text, libraryTag(mac, nonce, ad, text)...)
}

// mustOpen opens b, and checks that this succeeds.
func mustOpen(t *testing.T, key [32]byte, nonce [12]byte, ad, b []byte) []byte {
	t.Helper()
	plain, e := Open(key, nonce, ad, b)
	if e != api.OK {
		t.Fatalf("Open of %d bytes with %d: error %d", len(b), len(ad), e)
	}
	return plain
}

// refuse checks that b cannot be opened because of its tag.
func refuse(t *testing.T, what string, key [32]byte, nonce [12]byte, ad, b []byte) {
	t.Helper()
	if plain, e := Open(key, nonce, ad, b); e != api.ErrTag || plain != nil {
		t.Errorf("%s: %x %d", what, plain, e)
	}
}

// P4.1, P4.2: values that another program computed from the chapter.
func TestKnown(t *testing.T) {
	var key [32]byte
	var nonce [12]byte
	for i := range key {
		key[i] = byte(i)
	}
	for i := range nonce {
		nonce[i] = byte(100 + i)
	}
	enc, mac := Keys(key)
	stream, e := Stream(enc, nonce, 70)
	if e != api.OK {
		t.Fatal(e)
	}
	tag := Tag(mac, nonce, []byte("head"), []byte("body"))
	text := []byte("a text that fills one block of the stream, and a half.")
	for _, c := range []struct {
		what string
		got  []byte
		want string
	}{
		{"enc", enc, "96394e6f595ef3a188fa301b1fd68ed4bb1f63bba460f0cbc360b6af9ff9a0b6"},
		{"mac", mac, "c121f302e5f5883aa3c214011f6283faf987ecf0c3018faf412ddd83e043990a"},
		{"stream", stream, "e65669dbb699489721f5be09dcbc936ab7abee1f96937c38c64cb262998f46b1abcaa51c08f3577dea1750c6507e6c8dea153fe0e6a44b6ca3a095a23183b404054390eebfed"},
		{"tag", tag[:], "9910233091ca16c102145c6e973d5ced9196be7ef8a9e8ed103f17e99372f67e"},
		{"nothing", Seal(key, nonce, nil, nil), "fc60a4249a7ef378a23ed1d2b3962aab03b36e6277d059bf6e750b655ee46210"},
		{"text", Seal(key, nonce, []byte("head"), text), "87761dbeceed68e34994ca29bad5ff06c48b8171f3b31e54a92fd942f6e966c5c3af856f7c81321c873b70a73e1a4cecca7d5e8c808a418cc814fc3ecdc7f28e77800352459882f9aca4374513e737a131cbeb19610e"},
		{"zero key", Seal([32]byte{}, [12]byte{}, nil, []byte("abc")), "bb611e3c8c38d1ca74678c1cb4e1e47b19128f3be8c3bf26c26a9ad2212ae4c7acf3df"},
	} {
		if hex.EncodeToString(c.got) != c.want {
			t.Errorf("%s: %x", c.what, c.got)
		}
	}
}

// P4.1: the keys are those of HKDF, of 32 bytes, and in memory of their own.
func TestKeys(t *testing.T) {
	draw := rand.New(rand.NewSource(1))
	keys := [][32]byte{{}, {0: 1}, {31: 1}}
	for range 100 {
		key, _ := drawnKey(draw)
		keys = append(keys, key)
	}
	for _, key := range keys {
		wantEnc, wantMac := libraryKeys(t, key)
		enc, mac := Keys(key)
		if !bytes.Equal(enc, wantEnc) || !bytes.Equal(mac, wantMac) {
			t.Fatalf("Keys(%x): %x %x", key, enc, mac)
		}
		clear(enc[:cap(enc)])
		if !bytes.Equal(mac, wantMac) {
			t.Fatal("the keys share memory")
		}
		clear(mac[:cap(mac)])
		if enc, mac = Keys(key); !bytes.Equal(enc, wantEnc) || !bytes.Equal(mac, wantMac) {
			t.Fatalf("Keys(%x), again: %x %x", key, enc, mac)
		}
	}
}

// P4.1: every length around the first blocks, where the counter gets a second byte, and the greatest; keys of any length.
func TestStream(t *testing.T) {
	draw := rand.New(rand.NewSource(2))
	sizes := []int{255 * 32, 256*32 - 1, 256 * 32, 256*32 + 1, 257*32 + 5, 1<<20 - 33, 1<<20 - 1, 1 << 20}
	for n := range 130 {
		sizes = append(sizes, n)
	}
	for i, n := range sizes {
		_, nonce := drawnKey(draw)
		enc := drawn(draw, []int{32, 0, 64, 65, 100}[i%5])
		s, e := Stream(enc, nonce, n)
		if want := libraryStream(enc, nonce, n); e != api.OK || len(s) != n || !bytes.Equal(s, want) {
			t.Fatalf("%d bytes with a key of %d: %d bytes, error %d", n, len(enc), len(s), e)
		}
	}
	nothing, e := Stream(nil, [12]byte{}, 40)
	if empty, f := Stream([]byte{}, [12]byte{}, 40); e != api.OK || f != api.OK || !bytes.Equal(nothing, empty) {
		t.Error("a nil key is not an empty one")
	}
}

// P4.1: each byte of the nonce counts, also beside the counter.
func TestStreamNonces(t *testing.T) {
	enc := []byte("a key")
	first, e := Stream(enc, [12]byte{}, 64)
	if e != api.OK {
		t.Fatal(e)
	}
	for i := range 12 {
		var nonce [12]byte
		nonce[i] = 1
		s, e := Stream(enc, nonce, 64)
		if e != api.OK || bytes.Equal(s[:32], first[:32]) || bytes.Equal(s[:32], first[32:]) || bytes.Equal(s[32:], first[32:]) {
			t.Errorf("byte %d: %x %d", i, s, e)
		}
	}
}

// P4.1: lengths that are too small or too great.
func TestStreamErrors(t *testing.T) {
	for _, c := range []struct {
		n int
		e api.Errno
	}{
		{-1, api.ErrArg},
		{-32, api.ErrArg},
		{-1<<20 - 1, api.ErrArg},
		{math.MinInt, api.ErrArg},
		{1<<20 + 1, api.ErrLong},
		{1<<20 + 32, api.ErrLong},
		{1 << 32, api.ErrLong},
		{math.MaxInt, api.ErrLong},
	} {
		for _, enc := range [][]byte{nil, []byte("a key")} {
			if s, e := Stream(enc, [12]byte{1}, c.n); e != c.e || s != nil {
				t.Errorf("%d bytes: %d bytes, error %d", c.n, len(s), e)
			}
		}
	}
}

// P4.1: the tag is the MAC of all that, whatever the lengths of the key, of ad and of the text.
func TestTag(t *testing.T) {
	draw := rand.New(rand.NewSource(3))
	for size := range 300 {
		_, nonce := drawnKey(draw)
		mac, ad, text := drawn(draw, size%80), drawn(draw, draw.Intn(300)), drawn(draw, size)
		if size%7 == 0 {
			ad = nil
		}
		tag := Tag(mac, nonce, ad, text)
		if want := libraryTag(mac, nonce, ad, text); !bytes.Equal(tag[:], want) {
			t.Fatalf("%d bytes with %d: %x, and not %x", len(text), len(ad), tag, want)
		}
	}
	if Tag(nil, [12]byte{}, nil, nil) != Tag([]byte{}, [12]byte{}, []byte{}, []byte{}) {
		t.Error("nothing is not nothing")
	}
}

// P4.1: wherever the same bytes are cut into ad and text, the tag is another one.
func TestTagCuts(t *testing.T) {
	whole := bytes.Repeat([]byte{0, 0, 0, 0, 0, 0, 0, 8}, 5)
	cuts := map[[32]byte]int{}
	for cut := range len(whole) + 1 {
		tag := Tag([]byte("a key"), [12]byte{}, whole[:cut], whole[cut:])
		if other, ok := cuts[tag]; ok {
			t.Errorf("cut at %d and at %d", other, cut)
		}
		cuts[tag] = cut
	}
}

// P4.2, P4.3: every length around the first blocks is sealed as by the library, and opened again.
func TestSeal(t *testing.T) {
	draw := rand.New(rand.NewSource(4))
	for size := range 200 {
		key, nonce := drawnKey(draw)
		ad, plain := drawn(draw, draw.Intn(100)), drawn(draw, size)
		b := Seal(key, nonce, ad, plain)
		if want := librarySeal(t, key, nonce, ad, plain); len(b) != size+api.TagLen || !bytes.Equal(b, want) {
			t.Fatalf("%d bytes: %x, and not %x", size, b, want)
		}
		if p := mustOpen(t, key, nonce, ad, b); !bytes.Equal(p, plain) {
			t.Fatalf("%d bytes: opened as %x", size, p)
		}
	}
}

// P4.2, P4.3: a text is not limited as Stream is: the counter goes on, up to its third byte.
func TestSealLong(t *testing.T) {
	draw := rand.New(rand.NewSource(5))
	for _, size := range []int{1 << 20, 1<<20 + 1, 1<<21 + 100} {
		key, nonce := drawnKey(draw)
		ad, plain := drawn(draw, 5000), drawn(draw, size)
		b := Seal(key, nonce, ad, plain)
		if !bytes.Equal(b, librarySeal(t, key, nonce, ad, plain)) {
			t.Fatalf("%d bytes are not sealed as by the library", size)
		}
		if !bytes.Equal(mustOpen(t, key, nonce, ad, b), plain) {
			t.Fatalf("%d bytes are opened as others", size)
		}
	}
}

// P4.2: a sealed text is the stream's, with the first key, and has the tag with the second one.
func TestSealParts(t *testing.T) {
	draw := rand.New(rand.NewSource(6))
	for range 50 {
		key, nonce := drawnKey(draw)
		ad, size := drawn(draw, 20), draw.Intn(200)
		enc, mac := Keys(key)
		b := Seal(key, nonce, ad, make([]byte, size))
		s, e := Stream(enc, nonce, size)
		if e != api.OK || !bytes.Equal(b[:size], s) {
			t.Fatalf("%d zero bytes: %x", size, b)
		}
		if tag := Tag(mac, nonce, ad, s); !bytes.Equal(b[size:], tag[:]) {
			t.Fatalf("the tag of %d zero bytes: %x", size, b[size:])
		}
	}
}

// P4.2, R6: no bytes become their tag alone, which opens as no bytes; nil and empty are the same.
func TestSealNothing(t *testing.T) {
	key, nonce := [32]byte{1}, [12]byte{2}
	_, mac := Keys(key)
	for _, ad := range [][]byte{nil, {}, []byte("ad")} {
		tag := Tag(mac, nonce, ad, nil)
		for _, plain := range [][]byte{nil, {}} {
			if b := Seal(key, nonce, ad, plain); !bytes.Equal(b, tag[:]) {
				t.Errorf("with %q: %x", ad, b)
			}
		}
		if p := mustOpen(t, key, nonce, ad, tag[:]); len(p) != 0 {
			t.Errorf("with %q: %x", ad, p)
		}
	}
}

// P4.2: fewer bytes than a tag has.
func TestOpenShort(t *testing.T) {
	key, nonce := [32]byte{1}, [12]byte{2}
	b := Seal(key, nonce, nil, []byte("abc"))
	for n := range api.TagLen {
		if p, e := Open(key, nonce, nil, b[:n]); e != api.ErrShort || p != nil {
			t.Errorf("%d bytes: %x %d", n, p, e)
		}
	}
	if p, e := Open(key, nonce, nil, nil); e != api.ErrShort || p != nil {
		t.Errorf("nil: %x %d", p, e)
	}
	refuse(t, "as many bytes as a tag has", key, nonce, nil, b[:api.TagLen])
	refuse(t, "32 zero bytes", key, nonce, nil, make([]byte, api.TagLen))
}

// P4.2, P4.4: a change of any bit of what is sealed, of the key, of the nonce or of ad.
func TestOpenChanged(t *testing.T) {
	key, nonce, ad := [32]byte{1, 2, 3}, [12]byte{4, 5}, []byte("associated")
	b := Seal(key, nonce, ad, []byte("a text of more than one block of the stream"))
	for bit := range 8 * len(b) {
		bad := bytes.Clone(b)
		bad[bit/8] ^= 1 << (bit % 8)
		refuse(t, "a bit that is sealed", key, nonce, ad, bad)
	}
	for bit := range 8 * len(ad) {
		bad := bytes.Clone(ad)
		bad[bit/8] ^= 1 << (bit % 8)
		refuse(t, "a bit of ad", key, nonce, bad, b)
	}
	for bit := range 8 * len(key) {
		bad := key
		bad[bit/8] ^= 1 << (bit % 8)
		refuse(t, "a bit of the key", bad, nonce, ad, b)
	}
	for bit := range 8 * len(nonce) {
		bad := nonce
		bad[bit/8] ^= 1 << (bit % 8)
		refuse(t, "a bit of the nonce", key, bad, ad, b)
	}
	mustOpen(t, key, nonce, ad, b)
}

// P4.2, P4.4: bytes that are missing, or more; those of ad that are taken for the text's; a tag of another text.
func TestOpenMoved(t *testing.T) {
	key, nonce, ad := [32]byte{1}, [12]byte{2}, []byte("associated")
	b := Seal(key, nonce, ad, []byte("a text"))
	size := len(b) - api.TagLen
	for n := api.TagLen; n < len(b); n++ {
		refuse(t, "the last bytes missing", key, nonce, ad, b[:n])
		refuse(t, "the first bytes missing", key, nonce, ad, b[len(b)-n:])
	}
	refuse(t, "a byte more", key, nonce, ad, append(bytes.Clone(b), 0))
	refuse(t, "a byte before", key, nonce, ad, append([]byte{0}, b...))
	refuse(t, "no ad", key, nonce, nil, b)
	refuse(t, "less ad", key, nonce, ad[:9], b)
	refuse(t, "more ad", key, nonce, append(bytes.Clone(ad), 0), b)
	refuse(t, "ad before the text", key, nonce, nil, append(bytes.Clone(ad), b...))
	refuse(t, "the text behind ad", key, nonce, append(bytes.Clone(ad), b[:size]...), b[size:])
	refuse(t, "the tag first", key, nonce, ad, append(bytes.Clone(b[size:]), b[:size]...))
	other := Seal(key, nonce, ad, []byte("b text"))
	refuse(t, "the tag of another text", key, nonce, ad, append(bytes.Clone(b[:size]), other[size:]...))
	_, mac := Keys(key)
	tag := Tag(mac, nonce, ad, []byte("a text"))
	refuse(t, "the tag of the plain text", key, nonce, ad, append(bytes.Clone(b[:size]), tag[:]...))
}

// P4.4: any other tag.
func TestOpenOtherTags(t *testing.T) {
	draw := rand.New(rand.NewSource(7))
	key, nonce := drawnKey(draw)
	for _, size := range []int{0, 10, 100} {
		b := Seal(key, nonce, nil, drawn(draw, size))
		for range 200 {
			refuse(t, "another tag", key, nonce, nil, append(bytes.Clone(b[:size]), drawn(draw, api.TagLen)...))
		}
		for _, fill := range []byte{0, 255} {
			refuse(t, "a uniform tag", key, nonce, nil, append(bytes.Clone(b[:size]), bytes.Repeat([]byte{fill}, api.TagLen)...))
		}
		mustOpen(t, key, nonce, nil, b)
	}
}

// P4.5: ciphertexts differ as their plaintexts do, and their tags with them and with ad.
func TestDifferences(t *testing.T) {
	draw := rand.New(rand.NewSource(8))
	for range 100 {
		key, nonce := drawnKey(draw)
		size := 1 + draw.Intn(150)
		first, second := drawn(draw, size), drawn(draw, size)
		a, b := Seal(key, nonce, nil, first), Seal(key, nonce, nil, second)
		for i := range size {
			if a[i]^b[i] != first[i]^second[i] {
				t.Fatalf("byte %d of %d: %x and %x", i, size, a[i], b[i])
			}
		}
		c := Seal(key, nonce, []byte("ad"), first)
		if !bytes.Equal(a[:size], c[:size]) {
			t.Fatal("ad changes the ciphertext")
		}
		if !bytes.Equal(first, second) && bytes.Equal(a[size:], b[size:]) || bytes.Equal(a[size:], c[size:]) {
			t.Fatal("the tags are the same")
		}
		longer := Seal(key, nonce, nil, append(bytes.Clone(first), second...))
		if !bytes.Equal(longer[:size], a[:size]) {
			t.Fatal("a longer text begins otherwise")
		}
	}
}

// R3, R4: arguments are as they were, also beyond their lengths; results are new memory, and the same again.
func TestArgumentsAreKept(t *testing.T) {
	key, nonce := [32]byte{1}, [12]byte{2}
	for _, size := range []int{0, 5, 32, 40} {
		whole := bytes.Repeat([]byte("k"), 2*size+1)
		part := whole[:size]
		b := Seal(key, nonce, part, part)
		want := bytes.Clone(b)
		p := mustOpen(t, key, nonce, part, b[:len(b):len(b)])
		s, e := Stream(part, nonce, 40)
		if e != api.OK {
			t.Fatal(e)
		}
		Tag(part, nonce, part, part)
		clear(p[:cap(p)])
		clear(s[:cap(s)])
		if !bytes.Equal(whole, bytes.Repeat([]byte("k"), 2*size+1)) || !bytes.Equal(b, want) {
			t.Errorf("%d bytes: %q %x", size, whole, b)
		}
		clear(b[:cap(b)])
		if !bytes.Equal(whole, bytes.Repeat([]byte("k"), 2*size+1)) || !bytes.Equal(Seal(key, nonce, part, part), want) {
			t.Errorf("%d bytes: a result is kept", size)
		}
	}
	if key != [32]byte{1} || nonce != [12]byte{2} {
		t.Error(key, nonce)
	}
}
