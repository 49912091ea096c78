package xmss

import (
	"crypto/sha3"
	"encoding/hex"
	"strconv"
	"testing"

	"livery/api"
	"livery/param"
)

// P11.3, P11.4, P11.6: values that the reference implementation of RFC 8391 prints (its test/vectors), as the tests of github.com/bwesterb/go-xmssmt hold them: the first 10 bytes of SHAKE128 of the root and Pub, and of the signature of the byte 37 by leaf 512.
func TestPublished(t *testing.T) {
	for _, p := range []struct {
		code     uint32
		pub, sig string
	}{
		{1, "7de72d192121f414d4bb", "8b6cb278d50a3694ca38"},
		{13, "5933d4b1e696804718c7", "6ec9da2e05da544d9c5d"},
		{16, "cef3d38791d56efee1b3", "9939a0f87502df5d1e31"},
		{19, "7fa280e502275858b27b", "7782c54424c9ca082926"},
	} {
		t.Run(strconv.Itoa(int(p.code)), func(t *testing.T) {
			t.Parallel() // each builds two trees of 1024 leaves
			checkPublished(t, p.code, p.pub, p.sig)
		})
	}
}

func checkPublished(t *testing.T, code uint32, wantPub, wantSig string) {
	x, e := param.Xmss(code)
	if e != api.OK {
		t.Fatal(e)
	}
	bytes := make([]byte, 3*x.N)
	for i := range bytes {
		bytes[i] = byte(i)
	}
	k := api.XmssKey{Seed: bytes[:x.N], Prf: bytes[x.N : 2*x.N], Pub: bytes[2*x.N:]}
	sumOf := func(b []byte) string { return hex.EncodeToString(sha3.SumSHAKE128(b, 10)) }
	pub, e := Public(x, k)
	if e != api.OK || sumOf(pub[4:]) != wantPub {
		t.Fatalf("public %x %d", pub, e)
	}
	sig, e := Sign(x, k, 512, []byte{37})
	if e != api.OK || sumOf(sig) != wantSig {
		t.Fatalf("signature %x %d", sig, e)
	}
	if e := Verify(pub, []byte{37}, sig); e != api.OK {
		t.Fatal(e)
	}
}
