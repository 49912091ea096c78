package hbs

import (
	"bytes"
	"crypto/hkdf"
	"crypto/sha256"
	"encoding/binary"
	"math"
	"math/rand"
	"slices"
	"testing"

	"livery/api"
)

// What the tests hold the package against: the chapter, step by step, with the key derivation of the standard library.

// xset is a set of XMSS by chapter 6.
type xset struct {
	code   uint32
	family int
	h      int
}

// xsets are all sets of XMSS.
func xsets() []xset {
	var all []xset
	first := []uint32{1, 13, 16, 19}
	for f := range 4 {
		for i, h := range []int{10, 16, 20} {
			all = append(all, xset{first[f] + uint32(i), f, h})
		}
		for h := 1; h <= 4; h++ {
			all = append(all, xset{uint32(api.XmssOwn + 16*f + h), f, h})
		}
	}
	return all
}

// bytesOf is how many bytes a hash of the family has.
func bytesOf(family int) int { return 32 - family%2*8 }

// level is a level of the family's codes: a tree of that height (our own up to 4), and digits of w bits.
func level(family, height, w int) api.Level {
	l := uint32(api.LmsOwn + 16*family + height)
	if height > 4 {
		l = uint32(5*family + 4 + height/5)
	}
	o := uint32(4*family + 1)
	for ; w > 1; w /= 2 {
		o++
	}
	return api.Level{Lms: l, Ots: o}
}

// hset is a list of levels, by their heights.
type hset struct {
	l       []api.Level
	family  int
	heights []int
}

func hsetOf(f int, w int, heights ...int) hset {
	s := hset{family: f, heights: heights}
	for _, h := range heights {
		s.l = append(s.l, level(f, h, w))
	}
	return s
}

// sum is the sum of the heights.
func (s hset) sum() int {
	sum := 0
	for _, h := range s.heights {
		sum += h
	}
	return sum
}

// hsets are levels of each family, high ones, too.
func hsets() []hset {
	var all []hset
	for f := range 4 {
		all = append(all,
			hsetOf(f, 4, 1), hsetOf(f, 8, 3), hsetOf(f, 2, 25), hsetOf(f, 1, 5),
			hsetOf(f, 4, 1, 2), hsetOf(f, 4, 2, 1), hsetOf(f, 8, 10, 15), hsetOf(f, 4, 1, 1, 1),
			hsetOf(f, 8, 20, 20, 20), hsetOf(f, 1, 25, 25, 10), hsetOf(f, 2, 5, 5, 5, 5, 10, 10, 10, 10), hsetOf(f, 4, 1, 1, 1, 1, 1, 1, 1, 1))
	}
	return all
}

// badLevels are no levels.
func badLevels() [][]api.Level {
	return [][]api.Level{
		nil,
		{},
		{{}},
		{{Lms: level(0, 1, 4).Lms}},
		{{Ots: 3}},
		{{Lms: 5, Ots: 17}},
		{{Lms: 4, Ots: 3}},
		{{Lms: 25, Ots: 3}},
		{{Lms: api.LmsOwn, Ots: 3}},
		{{Lms: api.LmsOwn + 5, Ots: 3}},
		{{Lms: 5, Ots: 5}},
		{{Lms: 5, Ots: 9}},
		{{Lms: 3, Ots: 5}},
		{{Lms: math.MaxUint32, Ots: math.MaxUint32}},
		{level(0, 1, 4), {}},
		{level(0, 1, 4), level(1, 1, 4)},
		{level(0, 1, 4), level(2, 1, 4)},
		{level(2, 1, 4), level(0, 1, 4)},
		{level(3, 1, 4), level(3, 2, 4), level(1, 1, 4)},
		slices.Repeat([]api.Level{level(1, 1, 4)}, 9),
		slices.Repeat([]api.Level{level(1, 1, 4)}, 256),
		slices.Repeat([]api.Level{level(1, 1, 4)}, 257),
		hsetOf(0, 8, 20, 20, 20, 1).l,
		hsetOf(2, 8, 25, 25, 15).l,
	}
}

// badCodes are codes that no set of XMSS has.
func badCodes() []uint32 {
	return []uint32{0, 4, 5, 12, 22, 256, 257, 1 << 24, api.LmsOwn + 1, api.XmssOwn, api.XmssOwn + 5, api.XmssOwn + 16, api.XmssOwn + 53, api.XmssOwn + 65, math.MaxUint32}
}

// badKinds are kinds that are neither.
func badKinds() []int {
	return []int{0, 3, 4, -1, -2, 10, 255, 256, 257, 258, 1 << 32, 1<<32 + 1, 1<<32 + 2, math.MaxInt, math.MinInt, math.MinInt + 1}
}

func u32(n uint32) []byte { return binary.BigEndian.AppendUint32(nil, n) }

// some returns n bytes that are drawn.
func some(draw *rand.Rand, n int) []byte {
	b := make([]byte, n)
	draw.Read(b)
	return b
}

// drawn returns a draw.
func drawn(draw *rand.Rand) [64]byte { return [64]byte(some(draw, 64)) }

// refDerive is the byte string of a draw, a name and n.
func refDerive(t *testing.T, draw [64]byte, name string, n int) []byte {
	t.Helper()
	b, e := hkdf.Expand(sha256.New, draw[:], name, n)
	if e != nil {
		t.Fatal(e)
	}
	return b
}

// refHss is what Make returns for these levels.
func refHss(t *testing.T, s hset, number uint32, draw [64]byte) api.Secret {
	r := api.Secret{Kind: 1, Levels: s.l, Seed: refDerive(t, draw, "livery seed", bytesOf(s.family))}
	copy(r.Id[:4], u32(number))
	copy(r.Id[4:], refDerive(t, draw, "livery id", 12))
	return r
}

// refXmss is what Make returns for this set.
func refXmss(t *testing.T, x xset, number uint32, draw [64]byte) api.Secret {
	n := bytesOf(x.family)
	return api.Secret{
		Kind: 2,
		Xmss: x.code,
		Seed: refDerive(t, draw, "livery seed", n),
		Prf:  refDerive(t, draw, "livery prf", n),
		Pub:  slices.Concat(u32(number), refDerive(t, draw, "livery pub", n-4)),
	}
}

// refPut is the encoding of secrets.
func refPut(s api.Secret) []byte {
	if s.Kind == 2 {
		return slices.Concat([]byte{2}, u32(s.Xmss), s.Seed, s.Prf, s.Pub)
	}
	b := []byte{1, byte(len(s.Levels))}
	for _, l := range s.Levels {
		b = slices.Concat(b, u32(l.Lms), u32(l.Ots))
	}
	return slices.Concat(b, s.Id[:], s.Seed)
}

// equal tells whether secrets have the same fields.
func equal(a, b api.Secret) bool {
	return a.Kind == b.Kind && a.Xmss == b.Xmss && a.Id == b.Id && slices.Equal(a.Levels, b.Levels) &&
		bytes.Equal(a.Seed, b.Seed) && bytes.Equal(a.Prf, b.Prf) && bytes.Equal(a.Pub, b.Pub)
}

// isZero tells whether secrets are the zero value.
func isZero(s api.Secret) bool {
	return s.Levels == nil && s.Seed == nil && s.Prf == nil && s.Pub == nil && equal(s, api.Secret{})
}

// cloned returns secrets that share nothing with s.
func cloned(s api.Secret) api.Secret {
	s.Levels = slices.Clone(s.Levels)
	s.Seed, s.Prf, s.Pub = bytes.Clone(s.Seed), bytes.Clone(s.Prf), bytes.Clone(s.Pub)
	return s
}

// secrets are valid secrets of both kinds, with all fields drawn; their trees may be high.
func secrets(draw *rand.Rand) []api.Secret {
	var all []api.Secret
	for _, h := range hsets() {
		s := api.Secret{Kind: 1, Levels: h.l, Seed: some(draw, bytesOf(h.family))}
		draw.Read(s.Id[:])
		all = append(all, s)
	}
	for _, x := range xsets() {
		n := bytesOf(x.family)
		all = append(all, api.Secret{Kind: 2, Xmss: x.code, Seed: some(draw, n), Prf: some(draw, n), Pub: some(draw, n)})
	}
	return all
}

// quick are the secrets of low trees, by how high these are in all.
func quick(draw *rand.Rand) [4][]api.Secret {
	var all [4][]api.Secret
	for _, s := range secrets(draw) {
		height := -1
		for _, h := range hsets() {
			if s.Kind == 1 && slices.Equal(h.l, s.Levels) {
				height = h.sum()
			}
		}
		for _, x := range xsets() {
			if s.Kind == 2 && x.code == s.Xmss {
				height = x.h
			}
		}
		if height < len(all) {
			all[height] = append(all[height], s)
		}
	}
	return all
}

// changed are secrets that are not valid: s with another field.
func changed(s api.Secret) map[string]api.Secret {
	all := map[string]api.Secret{}
	put := func(name string, change func(s *api.Secret)) {
		c := cloned(s)
		change(&c)
		all[name] = c
	}
	sizes := map[string]func([]byte) []byte{
		"empty":    func(b []byte) []byte { return nil },
		"shorter":  func(b []byte) []byte { return b[:len(b)-1] },
		"longer":   func(b []byte) []byte { return append(slices.Clip(b), 0) },
		"twice":    func(b []byte) []byte { return slices.Concat(b, b) },
		"of other": func(b []byte) []byte { return make([]byte, 56-len(b)) },
	}
	for name, size := range sizes {
		put("Seed "+name, func(c *api.Secret) { c.Seed = size(c.Seed) })
		if s.Kind == 2 {
			put("Prf "+name, func(c *api.Secret) { c.Prf = size(c.Prf) })
			put("Pub "+name, func(c *api.Secret) { c.Pub = size(c.Pub) })
			put("all "+name, func(c *api.Secret) { c.Seed, c.Prf, c.Pub = size(c.Seed), size(c.Prf), size(c.Pub) })
		}
	}
	if s.Kind == 1 {
		put("Xmss", func(c *api.Secret) { c.Xmss = 1 })
		put("Xmss of no set", func(c *api.Secret) { c.Xmss = 1 << 31 })
		put("Prf", func(c *api.Secret) { c.Prf = []byte{0} })
		put("Pub", func(c *api.Secret) { c.Pub = []byte{0} })
		put("Prf and Pub", func(c *api.Secret) { c.Prf, c.Pub = c.Seed, c.Seed })
		put("kind", func(c *api.Secret) { c.Kind = 2 })
		for i, l := range badLevels() {
			put("levels "+string(rune('a'+i)), func(c *api.Secret) { c.Levels = l })
		}
		return all
	}
	put("Levels", func(c *api.Secret) { c.Levels = []api.Level{level(0, 1, 4)} })
	put("Levels that are none", func(c *api.Secret) { c.Levels = []api.Level{{}} })
	for i := range 16 {
		put("Id "+string(rune('a'+i)), func(c *api.Secret) { c.Id[i] = 1 << (i % 8) })
	}
	put("kind", func(c *api.Secret) { c.Kind = 1 })
	for i, x := range badCodes() {
		put("code "+string(rune('a'+i)), func(c *api.Secret) { c.Xmss = x })
	}
	return all
}

// call is a function of secrets. Its result tells whether what it returned beside the error is the zero value.
type call struct {
	name   string
	result func(s api.Secret) (zero bool, e api.Errno)
}

// calls are all functions of secrets that return an error.
func calls() []call {
	return []call{
		{"Check", func(s api.Secret) (bool, api.Errno) { return true, Check(s) }},
		{"Put", func(s api.Secret) (bool, api.Errno) { b, e := Put(s); return b == nil, e }},
		{"Count", func(s api.Secret) (bool, api.Errno) { n, e := Count(s); return n == 0, e }},
		{"Public", func(s api.Secret) (bool, api.Errno) { b, e := Public(s); return b == nil, e }},
		{"Sign", func(s api.Secret) (bool, api.Errno) { b, e := Sign(s, 0, nil); return b == nil, e }},
		{"Sign beyond all", func(s api.Secret) (bool, api.Errno) { b, e := Sign(s, math.MaxUint64, nil); return b == nil, e }},
	}
}
