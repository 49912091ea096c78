package wots

import (
	"bytes"
	"encoding/hex"
	"math"
	"math/rand"
	"testing"

	"livery/api"
	"livery/param"
)

// keyedHashes are the keyed hashes in the order of their numbers.
func keyedHashes() []func(x api.Xms, key, m []byte) []byte {
	return []func(x api.Xms, key, m []byte) []byte{F, H, HMsg, Prf, PrfKeygen}
}

// P10.1: the hash of the number, the key and m, for keys and m of any length.
func TestKeyedHashes(t *testing.T) {
	draw := rand.New(rand.NewSource(101))
	for _, x := range sets(t) {
		for _, sizes := range [][2]int{{0, 0}, {0, 9}, {9, 0}, {x.N, x.N}, {x.N, 32}, {x.N, 2 * x.N}, {x.N, x.N + 32}, {3 * x.N, 1000}, {1, 135}, {136, 136}, {31, 1}, {32, 64}} {
			key, m := some(draw, sizes[0]), some(draw, sizes[1])
			for number, f := range keyedHashes() {
				want := refKeyed(x, byte(number), key, m)
				if got := f(x, key, m); !bytes.Equal(got, want) || len(got) != x.N {
					t.Errorf("set %#x, hash %d, sizes %v: %x, not %x", x.Code, number, sizes, got, want)
				}
			}
		}
	}
}

// P10.1: values that another program's hashes yield (sha256sum of GNU coreutils 9.1, openssl dgst -shake256 of OpenSSL 3.0), for the key "key" and the text "text".
func TestKnownHashes(t *testing.T) {
	for _, c := range []struct {
		code   uint32
		number int
		want   string
	}{
		{1, 0, "aac0ecdc223efd41c4a7a7579e2e7f4c5e0653440eabc917dcfc28697cab8c4b"},
		{1, 1, "85b2bc0e46d822af3d110d5c46a89c32e102e877ede30111aa2e486528d92a43"},
		{1, 2, "4b3d319ccb1fda2b861dc7a6d06e5c93c8b1404fcf34fb2a0ff8ef2b7345f70c"},
		{1, 3, "ae437699b644ead165662e379f457143a76142660b33039ba7ade2544b16eda7"},
		{1, 4, "373c96bb3f1c6228eb4635f5ff0125fe0108d45ce570290cec33c5cedde6759c"},
		{13, 0, "4b08c95d0253a696109ec6ac7de39330b52f34ad8578cdf3"},
		{13, 1, "860a0ce5c2df838213b53bc2a0372976066432b850014586"},
		{13, 2, "dda2fbadc5b96821efc54a4a4e172987e785a871d25a1d6d"},
		{13, 3, "f6779a8f071b7b7f2cfc1f4e4a3cda260018f9fb9c582e7e"},
		{13, 4, "e45eb6317fc5af901d6569560ba234d182c1d94deb18bb7f"},
		{16, 0, "eb6131529c35894aa3c7eee099d8e7e36755ee7e905b5b0bb8c8bb9d7e0c42c8"},
		{16, 1, "a25b421af00242e856ed1c7f45a8a029a13347ae28ce71acd728b08f5c226c69"},
		{16, 2, "bd17f96932974625892fc59d37b40af45cd96baabd71b9a5e1f93759b9b10575"},
		{16, 3, "e2cb4692996645180fc57ae30a83730593f0b34e720cdf761bb25d6b5268ae52"},
		{16, 4, "38db0c1e7ac44797df90aaae7d84f0149dd1d7c8959689730948e5b388636624"},
		{19, 0, "ce99632a5cf342e5fd00b65e0479891d1ecf5a914dd3234f"},
		{19, 1, "241dc630c377cb750049d398b0ce237958fc7c0546a2d7bc"},
		{19, 2, "471f30c32fad8c6b1befc2df429d4b30ae47002a26fe8b52"},
		{19, 3, "d09d65f691c7345d5d5b07544a7ee627953cd4102272982a"},
		{19, 4, "712e4f9ff38d95942d9b3795d7719d000f3de79327cb8b90"},
	} {
		x, e := param.Xmss(c.code)
		if e != api.OK {
			t.Fatal(e)
		}
		if got := hex.EncodeToString(keyedHashes()[c.number](x, []byte("key"), []byte("text"))); got != c.want {
			t.Errorf("set %d, hash %d: %s, not %s", c.code, c.number, got, c.want)
		}
	}
}

// P10.1: nothing for what is no set.
func TestKeyedHashesOfNotSets(t *testing.T) {
	for _, x := range sets(t) {
		for _, no := range notSets(x) {
			for number, f := range keyedHashes() {
				if b := f(no, make([]byte, x.N), make([]byte, x.N)); b != nil {
					t.Errorf("%v, hash %d: %x", no, number, b)
				}
				if b := f(no, nil, nil); b != nil {
					t.Errorf("%v, hash %d of nothing: %x", no, number, b)
				}
			}
		}
	}
}

// R6: nil is a key and a text like an empty one.
func TestKeyedHashesOfNil(t *testing.T) {
	for _, x := range families(t) {
		for number, f := range keyedHashes() {
			if !bytes.Equal(f(x, nil, nil), f(x, []byte{}, []byte{})) || len(f(x, nil, nil)) != x.N {
				t.Errorf("set %#x, hash %d", x.Code, number)
			}
		}
	}
}

// P10.1: sets of a family have the same hashes, whatever their height.
func TestHashesOfFamily(t *testing.T) {
	seen := map[string]int{}
	for _, x := range sets(t) {
		for _, f := range keyedHashes() {
			seen[string(f(x, []byte("key"), []byte("text")))]++
		}
	}
	if len(seen) != 4*5 {
		t.Error(len(seen), "hashes")
	}
	for sum, n := range seen {
		if n != 7 {
			t.Errorf("%x: %d times", sum, n)
		}
	}
}

// P10.1: the words of an address, most significant byte first.
func TestBytes(t *testing.T) {
	if b := Bytes(api.Adrs{}); b != [32]byte{} {
		t.Error(b)
	}
	a := api.Adrs{0x00010203, 0x04050607, 0x08090a0b, 0x0c0d0e0f, 0x10111213, 0x14151617, 0x18191a1b, 0x1c1d1e1f}
	for i, x := range Bytes(a) {
		if int(x) != i {
			t.Errorf("byte %d: %d", i, x)
		}
	}
	draw := rand.New(rand.NewSource(102))
	for range 100 {
		_, _, a := someLeaf(draw, 0)
		a[draw.Intn(8)] = math.MaxUint32
		if b := Bytes(a); !bytes.Equal(b[:], refBytes(a)) {
			t.Errorf("%v: %x", a, b)
		}
	}
}
