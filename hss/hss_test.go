package hss

import (
	"bytes"
	"crypto/sha256"
	"encoding/hex"
	"math"
	"math/rand"
	"slices"
	"testing"

	"livery/api"
	"livery/lms"
)

// lengths are lengths of seeds that are not n.
func lengths(n int) []int { return []int{0, 1, 16, n - 1, n + 1, 56 - n, 2 * n} }

// P9.1: the child of leaves of each level.
func TestChild(t *testing.T) {
	draw := rand.New(rand.NewSource(93))
	for _, v := range singles(t) {
		k := keyOf(t, draw, []api.Level{v})
		last := uint32(k.count(t) - 1)
		for _, q := range []uint32{0, 1, last / 2, last, draw.Uint32() & last} {
			id, seed, e := Child(v, k.id, k.seed, q)
			wantId, wantSeed := refChild(t, v, k.id, k.seed, q)
			if e != api.OK || id != wantId || !bytes.Equal(seed, wantSeed) {
				t.Errorf("%v, leaf %d: %x %x %d", v, q, id, seed, e)
			}
		}
	}
}

// P9.1: Child returns ErrLevels, ErrArg and ErrIndex, in this order, and nothing with them.
func TestChildErrors(t *testing.T) {
	check := func(v api.Level, n int, q uint32, want api.Errno) {
		t.Helper()
		id, seed, e := Child(v, [16]byte{1, 2, 3}, make([]byte, n), q)
		if e != want || id != [16]byte{} || seed != nil {
			t.Errorf("%v, seed of %d bytes, leaf %d: %x %x %d, not %d", v, n, q, id, seed, e, want)
		}
	}
	for _, v := range notLevels() {
		for _, n := range []int{0, 24, 32} {
			check(v, n, 0, api.ErrLevels)
			check(v, n, math.MaxUint32, api.ErrLevels)
		}
	}
	for _, v := range singles(t) {
		l, _ := setsFor(t, v)
		for _, n := range lengths(l.N) {
			check(v, n, 0, api.ErrArg)
			check(v, n, math.MaxUint32, api.ErrArg)
		}
		for _, q := range []uint32{1 << l.H, 1<<l.H + 1, 1 << 31, math.MaxUint32} {
			check(v, l.N, q, api.ErrIndex)
		}
	}
}

// P9.2: a seed with other than N bytes is ErrArg, ahead of ErrIndex.
func TestSeedArg(t *testing.T) {
	for _, k := range keys(t) {
		n := len(k.seed)
		for _, k.seed = range [][]byte{nil, make([]byte, n-1), make([]byte, n+1), make([]byte, 56-n), make([]byte, 2*n)} {
			for _, c := range calls() {
				for _, index := range []uint64{0, math.MaxUint64} {
					if zero, e := c.result(k, index); c.seeded && (e != api.ErrArg || !zero) {
						t.Errorf("%s, %v, seed of %d bytes, index %d: %d, zero %v", c.name, k.l, len(k.seed), index, e, zero)
					}
				}
			}
		}
	}
}

// P9.2: an index that does not exist is ErrIndex.
func TestNoIndex(t *testing.T) {
	for _, k := range keys(t) {
		n := uint64(k.count(t))
		for _, index := range []uint64{n, n + 1, 2 * n, 1 << 32, 1 << 60, math.MaxUint64} {
			for _, c := range calls() {
				if zero, e := c.result(k, index); c.index && (e != api.ErrIndex || !zero) {
					t.Errorf("%s, %v, index %d: %d, zero %v", c.name, k.l, index, e, zero)
				}
			}
		}
	}
}

// P9.2, P9.4: the public key, and for each index the signature, its length, its index, its levels and its verification.
func TestSign(t *testing.T) {
	draw := rand.New(rand.NewSource(94))
	for _, k := range keys(t) {
		pub, e := Public(k.l, k.id, k.seed)
		if e != api.OK || !bytes.Equal(pub, k.refPublic(t)) {
			t.Fatalf("%v: %x %d", k.l, pub, e)
		}
		for index := range k.count(t) {
			if len(k.l) == 8 && index%37 != 0 {
				continue
			}
			msg := some(draw, draw.Intn(200))
			sig, e := Sign(k.l, k.id, k.seed, uint64(index), msg)
			if e != api.OK || len(sig) != Len(k.l) || !bytes.Equal(sig, joined(k.refParts(t, index, msg))) {
				t.Fatalf("%v, index %d: %d bytes, %d", k.l, index, len(sig), e)
			}
			if n, e := Index(pub, sig); e != api.OK || n != uint64(index) {
				t.Errorf("%v, index %d: %d %d", k.l, index, n, e)
			}
			if l, e := Levels(pub, sig); e != api.OK || !slices.Equal(l, k.l) {
				t.Errorf("%v, index %d: %v %d", k.l, index, l, e)
			}
			if e := Verify(pub, msg, sig); e != api.OK {
				t.Errorf("%v, index %d: %d", k.l, index, e)
			}
			if e := Verify(pub, append(msg, 0), sig); e != api.ErrSig {
				t.Errorf("%v, index %d, another message: %d", k.l, index, e)
			}
		}
	}
}

// P9.6: two indices with the same leaves down to a level have the same bytes up to the public key below it, and other ones have not.
func TestOneChild(t *testing.T) {
	for _, k := range keys(t) {
		if len(k.l) < 2 || len(k.l) > 4 {
			continue
		}
		sigs := make([][]byte, k.count(t))
		for index := range sigs {
			sig, e := Sign(k.l, k.id, k.seed, uint64(index), u32(uint32(index)))
			if e != api.OK {
				t.Fatal(k.l, e)
			}
			sigs[index] = sig
		}
		for depth := 1; depth < len(k.l); depth++ {
			v := k.l[depth]
			set, _ := setsFor(t, v)
			end := Len(k.l[:depth]) + 24 + set.N // behind the public key of the level
			for i := range sigs {
				for j := range sigs {
					same := slices.Equal(k.refLeaves(t, i)[:depth], k.refLeaves(t, j)[:depth])
					if bytes.Equal(sigs[i][:end], sigs[j][:end]) != same {
						t.Errorf("%v, indices %d and %d, above level %d: the same leaves %v", k.l, i, j, depth, same)
					}
				}
			}
		}
	}
}

// P9.7: with one level the public key and the signature are those of LMS after 4 bytes.
func TestOneLevelIsLms(t *testing.T) {
	draw := rand.New(rand.NewSource(95))
	for _, v := range singles(t) {
		l, o := setsFor(t, v)
		if l.H > 3 || o.W == 8 && l.H > 1 {
			continue
		}
		k := keyOf(t, draw, []api.Level{v})
		pub, e := Public(k.l, k.id, k.seed)
		want, f := lms.Public(l, o, k.id, k.seed)
		if e != api.OK || f != api.OK || !bytes.Equal(pub, slices.Concat([]byte{0, 0, 0, 1}, want)) {
			t.Errorf("%v: %x %d", v, pub, e)
		}
		for q := range uint32(k.count(t)) {
			msg := some(draw, 20)
			sig, e := Sign(k.l, k.id, k.seed, uint64(q), msg)
			want, f := lms.Sign(l, o, k.id, k.seed, q, msg)
			if e != api.OK || f != api.OK || !bytes.Equal(sig, slices.Concat([]byte{0, 0, 0, 0}, want)) {
				t.Errorf("%v, leaf %d: %d", v, q, e)
			}
			if e, f := Verify(pub, msg, sig), lms.Verify(pub[4:], msg, sig[4:]); e != api.OK || f != api.OK {
				t.Errorf("%v, leaf %d: %d %d", v, q, e, f)
			}
		}
	}
}

// R6: nil is a message like an empty one.
func TestNil(t *testing.T) {
	for _, k := range keys(t) {
		a, e := Sign(k.l, k.id, k.seed, 1, nil)
		b, f := Sign(k.l, k.id, k.seed, 1, []byte{})
		if e != api.OK || f != api.OK || !bytes.Equal(a, b) {
			t.Errorf("%v: %d %d", k.l, e, f)
		}
		pub := k.refPublic(t)
		if e, f := Verify(pub, nil, a), Verify(pub, []byte{}, a); e != api.OK || f != api.OK {
			t.Errorf("%v: %d %d", k.l, e, f)
		}
	}
}

// R3, R4: arguments stay as they are, and results are of no use to what comes later.
func TestMemory(t *testing.T) {
	for _, k := range keys(t) {
		msg := []byte("a message")
		pub, sig := k.refPublic(t), joined(k.refParts(t, 1, msg))
		args := [][]byte{k.seed, msg, pub, sig}
		var kept [][]byte
		for _, arg := range args {
			kept = append(kept, bytes.Clone(arg))
		}
		levels := slices.Clone(k.l)
		calls := []func() []byte{
			func() []byte { _, r, _ := Child(k.l[0], k.id, k.seed, 1); return r },
			func() []byte { r, _ := Public(k.l, k.id, k.seed); return r },
			func() []byte { r, _ := Sign(k.l, k.id, k.seed, 1, msg); return r },
			func() []byte { n, _ := Index(pub, sig); return u32(uint32(n)) },
			func() []byte { return u32(uint32(Verify(pub, msg, sig))) },
		}
		for i, call := range calls {
			first := call()
			want := bytes.Clone(first)
			for j := range first[:cap(first)] {
				first[:cap(first)][j] ^= 255
			}
			for j := range args {
				if !bytes.Equal(args[j], kept[j]) {
					t.Fatalf("%v, function %d: argument %d is changed", k.l, i, j)
				}
			}
			if again := call(); !slices.Equal(k.l, levels) || !bytes.Equal(again, want) {
				t.Fatalf("%v, function %d: %x, then %x", levels, i, want, again)
			}
		}
	}
}

// R3, R4: results that are lists may be changed.
func TestLists(t *testing.T) {
	for _, k := range keys(t) {
		levels := slices.Clone(k.l)
		pub, sig := k.refPublic(t), joined(k.refParts(t, 1, nil))
		for range 2 {
			q, e := Split(k.l, 1)
			if e != api.OK || !slices.Equal(q, k.refLeaves(t, 1)) {
				t.Errorf("%v: %v %d", levels, q, e)
			}
			clear(q[:cap(q)])
			l, e := Levels(pub, sig)
			if e != api.OK || !slices.Equal(l, levels) {
				t.Errorf("%v: %v %d", levels, l, e)
			}
			clear(l[:cap(l)])
		}
		if !slices.Equal(k.l, levels) {
			t.Errorf("%v has become %v", levels, k.l)
		}
	}
}

// from returns n bytes, each greater by 1 than the one before.
func from(first, n int) []byte {
	b := make([]byte, n)
	for i := range b {
		b[i] = byte(first + i)
	}
	return b
}

// P9.2: signatures that other programs made with the same secrets; of each its SHA-256.
func TestOtherPrograms(t *testing.T) {
	unhex := func(s string) []byte { b, _ := hex.DecodeString(s); return b }
	// The two of the reference implementation of RFC 8554 (cisco/hash-sigs), among the test vectors of Botan 3.7.1.
	seed, id := unhex("67c6697351ff4aec29cdbaabf2fbe3467cc254f81be8e78d765a2e63339fc99a"), [16]byte(unhex("66320db73158a35a255d051758e95ed4"))
	five := func(ots ...uint32) (l []api.Level) {
		for _, o := range ots {
			l = append(l, api.Level{Lms: 5, Ots: o})
		}
		return l
	}
	castle := func(i, index int, sum string, l []api.Level) vector { // Bouncy Castle 1.72
		return vector{key{l, [16]byte(from(90*i+7, 16)), from(50*i+3, 32)}, uint64(index), from(index, index%90), sum}
	}
	for _, v := range []vector{
		{key{[]api.Level{{Lms: 6, Ots: 3}, {Lms: 5, Ots: 4}}, id, seed}, 131, unhex("deadbeef"), "4e417b5470326de7e950d2f87f5ccd59f935b919ffef54566bc20d60673e7c48"},
		{key{five(4, 4, 4, 4, 4, 4, 4, 4), id, seed}, 42, unhex("1234f006ba89f00111213baf0016171819f0"), "d03e20edf3d22b46fa69a8a81fa8c6c7363d70df2e5766dbae6fc49a4ccdb8e4"},
		castle(0, 0, "3404bf9f7766f0d49cfad2a97cb96b17b29036a18709b6094aec7318dce72bc6", five(2, 1)),
		castle(0, 33, "e22a5deddceeaf8456425ea350ffd6cde5dca230b486e55353153cc8585e1f31", five(2, 1)),
		castle(0, 700, "2dc6692141f7375b1f74136cbb5fe32c41124a4d0a407912bb261656919d1d71", five(2, 1)),
		castle(1, 31, "087f1d2431221d23ebdaf28d431df851e9293abe82ca070fc5f8179918a21249", five(3, 2, 1)),
		castle(1, 32, "160a5258deb1a8f0084d319535ae1e86ffe54b10d25ed76c880db3c233e3176b", five(3, 2, 1)),
		castle(1, 1024, "2c5f67be0b2c9e5dfdb38e4abe5ebd0dce1394082c0b85918fe3d3de6d4cbf47", five(3, 2, 1)),
		castle(1, 5223, "e6a763c114aaf473776bdbb21e3299dda6e900bceb074ae84dcfaa7f95cfecec", five(3, 2, 1)),
		castle(3, 63, "8c3a2cea9c596408d22c3f6104b2a6d9a0d89793fdc9f310e471a116971094c7", five(4, 3)),
	} {
		sig, e := Sign(v.l, v.id, v.seed, v.index, v.msg)
		sum := sha256.Sum256(sig)
		if e != api.OK || hex.EncodeToString(sum[:]) != v.sum {
			t.Errorf("%v, index %d: %x %d", v.l, v.index, sum, e)
		}
	}
}

// vector is a signature by its SHA-256.
type vector struct {
	key
	index uint64
	msg   []byte
	sum   string
}
