package drbg

import (
	"bytes"
	"crypto/hmac"
	"crypto/sha256"
	"encoding/hex"
	"math"
	"math/rand"
	"testing"

	"livery/api"
)

// random returns size bytes.
func random(draw *rand.Rand, size int) []byte {
	b := make([]byte, size)
	draw.Read(b)
	return b
}

// row returns size bytes that count up from first.
func row(first, size int) []byte {
	b := make([]byte, size)
	for i := range b {
		b[i] = byte(first + i)
	}
	return b
}

// unhex returns the bytes of the digits.
func unhex(t *testing.T, s string) []byte {
	t.Helper()
	b, err := hex.DecodeString(s)
	if err != nil {
		t.Fatal(err)
	}
	return b
}

// mustNew creates a generator.
func mustNew(t *testing.T, entropy, nonce, person []byte) *Drbg {
	t.Helper()
	d, e := New(entropy, nonce, person)
	if e != api.OK || d == nil {
		t.Fatalf("New with %d, %d and %d bytes: error %d", len(entropy), len(nonce), len(person), e)
	}
	return d
}

// mustDraw draws n bytes.
func mustDraw(t *testing.T, d *Drbg, n int, add []byte) []byte {
	t.Helper()
	b, e := d.Draw(n, add)
	if e != api.OK || len(b) != n {
		t.Fatalf("Draw of %d bytes with %d: %d bytes, error %d", n, len(add), len(b), e)
	}
	return b
}

// mustReseed reseeds d.
func mustReseed(t *testing.T, d *Drbg, entropy, add []byte) {
	t.Helper()
	if e := d.Reseed(entropy, add); e != api.OK {
		t.Fatalf("Reseed with %d and %d bytes: error %d", len(entropy), len(add), e)
	}
}

// sameState checks that a and b count alike, and that clones of both draw the same bytes.
func sameState(t *testing.T, what string, a, b *Drbg) {
	t.Helper()
	if a.Count() != b.Count() || a.Left() != b.Left() {
		t.Fatalf("%s: %d draws are left after %d, and %d after %d", what, a.Left(), a.Count(), b.Left(), b.Count())
	}
	c, d := a.Clone(), b.Clone()
	mustReseed(t, c, make([]byte, 32), nil)
	mustReseed(t, d, make([]byte, 32), nil)
	if x, y := mustDraw(t, c, 64, nil), mustDraw(t, d, 64, nil); !bytes.Equal(x, y) {
		t.Fatalf("%s: %x and %x", what, x, y)
	}
}

// library is the chapter's generator, computed with the library's MAC.
type library struct{ key, value []byte }

func libraryMac(key []byte, parts ...[]byte) []byte {
	h := hmac.New(sha256.New, key)
	for _, p := range parts {
		h.Write(p)
	}
	return h.Sum(nil)
}

func newLibrary(text []byte) *library {
	l := &library{make([]byte, 32), bytes.Repeat([]byte{1}, 32)}
	l.update(text)
	return l
}

func (l *library) update(text []byte) {
	l.key = libraryMac(l.key, l.value, []byte{0}, text)
	l.value = libraryMac(l.key, l.value)
	if len(text) == 0 {
		return
	}
	l.key = libraryMac(l.key, l.value, []byte{1}, text)
	l.value = libraryMac(l.key, l.value)
}

func (l *library) draw(n int, add []byte) []byte {
	if len(add) > 0 {
		l.update(add)
	}
	var b []byte
	for len(b) < n {
		l.value = libraryMac(l.key, l.value)
		b = append(b, l.value...)
	}
	l.update(add)
	return b[:n]
}

// P5.1, P5.2: a published value (NIST, HMAC_DRBG with SHA-256, without reseeding): the second of two draws.
func TestPublished(t *testing.T) {
	d := mustNew(t,
		unhex(t, "ca851911349384bffe89de1cbdc46e6831e44d34a4fb935ee285dd14b71a7488"),
		unhex(t, "659ba96c601dc69fc902940805ec0ca8"), nil)
	mustDraw(t, d, 128, nil)
	want := "e528e9abf2dece54d47c7e75e5fe302149f817ea9fb4bee6f4199697d04d5b89d54fbb978a15b5c443c9ec21036d2460b6f73ebad0dc2aba6e624abf07745bc1" +
		"07694bb7547bb0995f70de25d6b29e2d3011bb19d27676c07162c8b5ccde0668961df86803482cb37ed6d5c0bb8d50cf1f50d476aa0458bdaba806f48be9dcb8"
	if b := mustDraw(t, d, 128, nil); hex.EncodeToString(b) != want {
		t.Errorf("%x", b)
	}
}

// P5.1, P5.2: values that another program computed from the chapter.
func TestKnown(t *testing.T) {
	zero := mustNew(t, make([]byte, 32), nil, nil)
	again := zero.Clone()
	mustDraw(t, again, 0, nil)
	d := mustNew(t, row(0, 40), row(100, 16), []byte("person"))
	check := func(what string, got []byte, want string) {
		t.Helper()
		if hex.EncodeToString(got) != want {
			t.Errorf("%s: %x", what, got)
		}
	}
	check("zero entropy", mustDraw(t, zero, 70, nil), "3bfcfcbce13be445f7a300bb7c9fcf74ff3e9739735a418f87bfaaf46c0cee17f71f2f5661c10c1850f2a19695351f720768a96f78da26e4d64b890899d666e501d77e49cdac")
	check("after no bytes", mustDraw(t, again, 32, nil), "24059effdf42df7ed9a496290a4f753d42f5bf6c84341ab7e642e11fa58562ef")
	check("nonce and person", mustDraw(t, d, 40, nil), "35395540aa9748a73b3b240d249e1a50c909aa5b4c1973558c2e09d0308056a1612508ce4415f13b")
	check("add", mustDraw(t, d, 33, []byte("add")), "2c5e878f765f5efa37ec0ef772f072b266db1d8516443dcf84211f0251cbffcf68")
	check("no bytes with add", mustDraw(t, d, 0, []byte("more")), "")
	check("after that", mustDraw(t, d, 5, nil), "705695e18e")
	mustReseed(t, d, row(200, 32), []byte("again"))
	check("after a reseeding", mustDraw(t, d, 64, []byte("add")), "4494bad25f91aea87a7c305bd797f5ef2b6c3086bc075fb74719666cce21ed8c5796defbf0b9e3665d7e812dc0848921ce1038e6dc353c2eaf5baf49e5820f64")
	mustReseed(t, d, row(200, 32), nil)
	check("after another one", mustDraw(t, d, 1, nil), "2f")
	sum := sha256.Sum256(mustDraw(t, mustNew(t, row(0, 40), row(100, 16), nil), api.MaxDraw, nil))
	check("a long draw", sum[:], "2a5aa747f2020c23b784f58b711ed1f460df7231f26763b4aad7680c3e8a3567")
}

// P5.1, P5.2: drawn and reseeded in any order, with inputs and outputs of many lengths, as by the library.
func TestLibrary(t *testing.T) {
	draw := rand.New(rand.NewSource(1))
	sizes := []int{0, 0, 1, 5, 31, 32, 33, 64, 100, 300, 4095, 4096}
	size := func() int { return sizes[draw.Intn(len(sizes))] }
	for round := range 30 {
		entropy, nonce, person := random(draw, max(32, size())), random(draw, size()), random(draw, size())
		d := mustNew(t, entropy, nonce, person)
		l := newLibrary(bytes.Join([][]byte{entropy, nonce, person}, nil))
		for step := range 30 {
			add := random(draw, size())
			if draw.Intn(6) == 0 {
				entropy = random(draw, max(32, size()))
				mustReseed(t, d, entropy, add)
				l.update(append(bytes.Clone(entropy), add...))
				continue
			}
			n := size()
			if b, want := mustDraw(t, d, n, add), l.draw(n, add); !bytes.Equal(b, want) {
				t.Fatalf("round %d, step %d: %d bytes with %d: %x, and not %x", round, step, n, len(add), b, want)
			}
		}
	}
}

// P5.2: every length around the first blocks, and around the greatest.
func TestDrawLengths(t *testing.T) {
	lengths := []int{4096, api.MaxDraw - 33, api.MaxDraw - 32, api.MaxDraw - 1, api.MaxDraw}
	for n := range 130 {
		lengths = append(lengths, n)
	}
	for _, n := range lengths {
		d, l := mustNew(t, row(7, 32), nil, nil), newLibrary(row(7, 32))
		for range 2 {
			if b, want := mustDraw(t, d, n, nil), l.draw(n, nil); !bytes.Equal(b, want) {
				t.Fatalf("%d bytes are not the library's", n)
			}
		}
	}
}

// P5.1: the least and the greatest lengths, and those beyond; too little entropy is told first.
func TestNewErrors(t *testing.T) {
	for _, c := range []struct {
		entropy, nonce, person int
		e                      api.Errno
	}{
		{32, 0, 0, api.OK},
		{4096, 4096, 4096, api.OK},
		{0, 0, 0, api.ErrEntropy},
		{31, 0, 0, api.ErrEntropy},
		{31, 32, 32, api.ErrEntropy},
		{31, 4097, 0, api.ErrEntropy},
		{31, 0, 4097, api.ErrEntropy},
		{4097, 0, 0, api.ErrLong},
		{32, 4097, 0, api.ErrLong},
		{32, 0, 4097, api.ErrLong},
		{4097, 4097, 4097, api.ErrLong},
		{1 << 16, 0, 0, api.ErrLong},
	} {
		d, e := New(make([]byte, c.entropy), make([]byte, c.nonce), make([]byte, c.person))
		if e != c.e || (d == nil) != (e != api.OK) {
			t.Errorf("%d, %d and %d bytes: error %d", c.entropy, c.nonce, c.person, e)
		}
	}
	if d, e := New(nil, nil, nil); e != api.ErrEntropy || d != nil {
		t.Errorf("nothing: error %d", e)
	}
}

// P5.1: likewise; a reseeding that fails leaves the state and the counter as they were.
func TestReseedErrors(t *testing.T) {
	d := mustNew(t, row(1, 32), nil, nil)
	mustDraw(t, d, 10, nil)
	before := d.Clone()
	for _, c := range []struct {
		entropy, add int
		e            api.Errno
	}{
		{0, 0, api.ErrEntropy},
		{31, 0, api.ErrEntropy},
		{31, 32, api.ErrEntropy},
		{31, 4097, api.ErrEntropy},
		{4097, 0, api.ErrLong},
		{32, 4097, api.ErrLong},
		{4097, 4097, api.ErrLong},
	} {
		if e := d.Reseed(make([]byte, c.entropy), make([]byte, c.add)); e != c.e {
			t.Errorf("%d and %d bytes: error %d", c.entropy, c.add, e)
		}
		sameState(t, "a failed reseeding", d, before)
	}
	mustReseed(t, d, row(2, 4096), row(3, 4096))
	if d.Count() != 1 || d.Left() != api.MaxDraws {
		t.Errorf("%d draws are left after %d", d.Left(), d.Count())
	}
	mustReseed(t, before, row(2, 4096), row(3, 4095))
	x, y := mustDraw(t, d, 32, nil), mustDraw(t, before, 32, nil)
	if bytes.Equal(x, y) {
		t.Error("the last byte does not count")
	}
}

// P5.2: lengths that are negative or too great, in the order in which errors are told; a draw that fails changes nothing.
func TestDrawErrors(t *testing.T) {
	fresh := mustNew(t, row(1, 32), nil, nil)
	worn := fresh.Clone()
	for range api.MaxDraws {
		mustDraw(t, worn, 0, nil)
	}
	for _, c := range []struct {
		n, add      int
		fresh, worn api.Errno
	}{
		{-1, 0, api.ErrArg, api.ErrArg},
		{-1, 4097, api.ErrArg, api.ErrArg},
		{math.MinInt, 0, api.ErrArg, api.ErrArg},
		{1<<16 + 1, 0, api.ErrLong, api.ErrLong},
		{1<<16 + 1, 10, api.ErrLong, api.ErrLong},
		{1 << 32, 0, api.ErrLong, api.ErrLong},
		{math.MaxInt, 4097, api.ErrLong, api.ErrLong},
		{0, 4097, api.ErrLong, api.ErrLong},
		{1, 4097, api.ErrLong, api.ErrLong},
		{0, 0, api.OK, api.ErrReseed},
		{1 << 16, 4096, api.OK, api.ErrReseed},
	} {
		for _, d := range []*Drbg{fresh, worn} {
			want := c.fresh
			if d == worn {
				want = c.worn
			}
			after := d.Clone()
			b, e := after.Draw(c.n, make([]byte, c.add))
			if e != want || e != api.OK && b != nil {
				t.Fatalf("%d bytes with %d, after %d: %d bytes, error %d", c.n, c.add, d.Count(), len(b), e)
			}
			if e != api.OK {
				sameState(t, "a failed draw", after, d)
			}
		}
	}
}

// P5.3: the counter goes up by one with each draw that succeeds, and back to 1 with a reseeding.
func TestCount(t *testing.T) {
	d := mustNew(t, make([]byte, 32), nil, nil)
	if d.Count() != 1 || d.Left() != 1024 {
		t.Fatalf("%d draws are left after %d", d.Left(), d.Count())
	}
	if b, e := d.Draw(0, nil); e != api.OK || len(b) != 0 || d.Count() != 2 || d.Left() != 1023 {
		t.Fatalf("no bytes: %x %d, and %d draws are left after %d", b, e, d.Left(), d.Count())
	}
	for i := 3; i < 20; i++ {
		mustDraw(t, d, i, row(0, i%3))
		if d.Count() != i || d.Left() != 1025-i {
			t.Fatalf("%d draws are left after %d, and not %d", d.Left(), d.Count(), i)
		}
	}
	mustReseed(t, d, make([]byte, 32), nil)
	if d.Count() != 1 || d.Left() != 1024 {
		t.Errorf("reseeded: %d draws are left after %d", d.Left(), d.Count())
	}
}

// P5.3: a clone has the state and the counter, and neither one changes the other.
func TestClone(t *testing.T) {
	d := mustNew(t, row(1, 32), row(2, 3), nil)
	mustDraw(t, d, 50, []byte("add"))
	c, unused := d.Clone(), d.Clone()
	sameState(t, "a clone", c, d)
	mustDraw(t, c, 7, nil)
	mustDraw(t, c, 7, []byte("add"))
	sameState(t, "what was cloned", d, unused)
	mustReseed(t, c, row(3, 32), nil)
	sameState(t, "what was cloned", d, unused)
	x, y := mustDraw(t, d, 100, nil), mustDraw(t, unused, 100, nil)
	if !bytes.Equal(x, y) || d.Count() != 3 || c.Count() != 1 || c.Clone().Count() != 1 {
		t.Errorf("%x and %x; %d and %d", x, y, d.Count(), c.Count())
	}
	if mustDraw(t, c.Clone().Clone(), 0, nil); c.Count() != 1 {
		t.Error("a clone's clone counts for both")
	}
}

// P5.1 to P5.3, R5: what this package did not create; ErrMade is told ahead of all other errors.
func TestNotMade(t *testing.T) {
	for _, d := range []*Drbg{nil, {}, new(Drbg)} {
		for _, n := range []int{-1, 0, 1, api.MaxDraw + 1} {
			for _, add := range [][]byte{nil, []byte("add"), make([]byte, api.MaxInput+1)} {
				if b, e := d.Draw(n, add); e != api.ErrMade || b != nil {
					t.Errorf("Draw(%d): %x %d", n, b, e)
				}
			}
		}
		for _, size := range []int{0, 32, api.MaxInput + 1} {
			if e := d.Reseed(make([]byte, size), nil); e != api.ErrMade {
				t.Errorf("Reseed with %d bytes: error %d", size, e)
			}
		}
		if d.Count() != 0 || d.Left() != 0 || d.Clone() != nil {
			t.Error(d.Count(), d.Left(), d.Clone())
		}
	}
}

// P5.4: the same calls return the same bytes; one other bit of any input returns others.
func TestDeterminism(t *testing.T) {
	inputs := func() [][]byte {
		return [][]byte{row(1, 32), row(2, 4), row(3, 4), row(4, 5), row(5, 32), row(6, 6), row(7, 3)}
	}
	run := func(l [][]byte) []byte {
		d := mustNew(t, l[0], l[1], l[2])
		first := mustDraw(t, d, 40, l[3])
		mustReseed(t, d, l[4], l[5])
		second := mustDraw(t, d, 40, l[6])
		return append(append(first, second...), mustDraw(t, d, 40, nil)...)
	}
	want := run(inputs())
	if again := run(inputs()); !bytes.Equal(again, want) {
		t.Fatalf("%x and %x", want, again)
	}
	for i, input := range inputs() {
		for bit := range 8 * len(input) {
			l := inputs()
			l[i][bit/8] ^= 1 << (bit % 8)
			if b := run(l); bytes.Equal(b[80:], want[80:]) || bytes.Equal(b[:40], want[:40]) != (i > 3) || bytes.Equal(b[40:80], want[40:80]) {
				t.Errorf("bit %d of input %d: %x", bit, i, b)
			}
		}
	}
}

// P5.4: bytes that are drawn one draw after the other do not repeat.
func TestDrawsDiffer(t *testing.T) {
	d := mustNew(t, make([]byte, 32), nil, nil)
	seen := map[[32]byte]int{}
	for i := range 200 {
		b := mustDraw(t, d, 96, []byte("add")[:i%2*3])
		for at := 0; at < len(b); at += 32 {
			block := [32]byte(b[at : at+32])
			if first, ok := seen[block]; ok {
				t.Fatalf("draw %d repeats draw %d", i, first)
			}
			seen[block] = i
		}
	}
}

// P5.5: fewer bytes are a prefix of more, with and without add.
func TestPrefixes(t *testing.T) {
	draw := rand.New(rand.NewSource(2))
	d := mustNew(t, random(draw, 32), random(draw, 20), nil)
	for _, add := range [][]byte{nil, []byte("add"), random(draw, 4096)} {
		whole := mustDraw(t, d.Clone(), 300, add)
		for n := range 300 {
			if b := mustDraw(t, d.Clone(), n, add); !bytes.Equal(b, whole[:n]) {
				t.Fatalf("%d bytes with %d: %x", n, len(add), b)
			}
		}
		long := mustDraw(t, d.Clone(), api.MaxDraw, add)
		if !bytes.Equal(long[:300], whole) {
			t.Fatalf("the longest draw with %d bytes begins otherwise", len(add))
		}
		mustDraw(t, d, 1, add)
	}
}

// P5.6: 1,024 draws of any kind succeed after New, and after each Reseed; failed calls do not count.
func TestDraws(t *testing.T) {
	draw := rand.New(rand.NewSource(3))
	d := mustNew(t, random(draw, 32), nil, nil)
	for round := range 3 {
		for i := range 1024 {
			if d.Count() != i+1 || d.Left() != 1024-i {
				t.Fatalf("round %d, draw %d: %d draws are left after %d", round, i, d.Left(), d.Count())
			}
			if i%100 == 50 {
				failAll(t, d)
			}
			mustDraw(t, d, draw.Intn(40)*(i%2), random(draw, draw.Intn(20)*(i%3)))
		}
		before := d.Clone()
		for _, n := range []int{0, 1, 32, api.MaxDraw} {
			for _, add := range [][]byte{nil, []byte("add")} {
				if b, e := d.Draw(n, add); e != api.ErrReseed || b != nil {
					t.Fatalf("round %d, %d bytes: %x %d", round, n, b, e)
				}
			}
		}
		failAll(t, d)
		if d.Count() != 1025 || d.Left() != 0 {
			t.Fatalf("round %d: %d draws are left after %d", round, d.Left(), d.Count())
		}
		sameState(t, "a worn generator", d, before)
		mustReseed(t, d, random(draw, 32), random(draw, round))
	}
}

// failAll makes calls that fail.
func failAll(t *testing.T, d *Drbg) {
	t.Helper()
	before := d.Clone()
	d.Draw(-1, nil)
	d.Draw(api.MaxDraw+1, nil)
	d.Draw(0, make([]byte, api.MaxInput+1))
	d.Reseed(nil, nil)
	d.Reseed(make([]byte, 31), nil)
	d.Reseed(make([]byte, 32), make([]byte, api.MaxInput+1))
	sameState(t, "failed calls", d, before)
}

// P5.7, P5.1: wherever one byte string is split into entropy, nonce and person, the generator is the same.
func TestNewSplits(t *testing.T) {
	whole := row(9, 48)
	want := mustNew(t, whole, nil, nil)
	for i := 32; i <= len(whole); i++ {
		for j := i; j <= len(whole); j++ {
			sameState(t, "a split", mustNew(t, whole[:i], whole[i:j], whole[j:]), want)
		}
	}
	long := row(9, 3*4096)
	want = mustNew(t, long[:4096], long[4096:8192], long[8192:])
	l := newLibrary(long)
	if x, y := mustDraw(t, want, 32, nil), l.draw(32, nil); !bytes.Equal(x, y) {
		t.Errorf("the greatest lengths: %x, and not %x", x, y)
	}
	sameState(t, "a split of 8,192 bytes", mustNew(t, long[:4096], nil, long[4096:8192]), mustNew(t, long[:4096], long[4096:8192], nil))
	sameState(t, "a split of 4,196 bytes", mustNew(t, long[:4096], long[4096:4196], nil), mustNew(t, long[:100], nil, long[100:4196]))
}

// P5.7, P5.1: likewise for entropy and add; bytes in another order are another input.
func TestReseedSplits(t *testing.T) {
	whole := row(9, 70)
	reseeded := func(cut int) *Drbg {
		d := mustNew(t, make([]byte, 32), nil, nil)
		mustDraw(t, d, 3, nil)
		mustReseed(t, d, whole[:cut], whole[cut:])
		return d
	}
	want := mustDraw(t, reseeded(len(whole)), 64, nil)
	for cut := 32; cut < len(whole); cut++ {
		if b := mustDraw(t, reseeded(cut), 64, nil); !bytes.Equal(b, want) {
			t.Fatalf("split at %d: %x", cut, b)
		}
	}
	d := mustNew(t, make([]byte, 32), nil, nil)
	mustDraw(t, d, 3, nil)
	mustReseed(t, d, whole[32:], whole[:32])
	if b := mustDraw(t, d, 64, nil); bytes.Equal(b, want) {
		t.Error("add counts as entropy wherever it stands")
	}
}

// P5.2: what is drawn depends on add, and so does all that follows, even if no bytes were drawn with it.
func TestAdd(t *testing.T) {
	d := mustNew(t, row(1, 32), nil, nil)
	plain, added := d.Clone(), d.Clone()
	if x, y := mustDraw(t, plain, 32, nil), mustDraw(t, added, 32, []byte{0}); bytes.Equal(x, y) {
		t.Error("a byte 0 is no add")
	}
	if x, y := mustDraw(t, plain, 32, nil), mustDraw(t, added, 32, nil); bytes.Equal(x, y) {
		t.Error("add is forgotten")
	}
	none, other := d.Clone(), d.Clone()
	mustDraw(t, none, 0, []byte("add"))
	mustDraw(t, other, 0, []byte("odd"))
	if x, y := mustDraw(t, none, 32, nil), mustDraw(t, other, 32, nil); bytes.Equal(x, y) {
		t.Error("add counts only where bytes are drawn")
	}
}

// R6: nothing is nothing, nil or empty.
func TestNilAndEmpty(t *testing.T) {
	a, b := mustNew(t, row(1, 32), nil, nil), mustNew(t, row(1, 32), []byte{}, []byte{})
	sameState(t, "New", a, b)
	if x, y := mustDraw(t, a, 20, nil), mustDraw(t, b, 20, []byte{}); !bytes.Equal(x, y) {
		t.Errorf("%x and %x", x, y)
	}
	sameState(t, "Draw", a, b)
	mustReseed(t, a, row(2, 32), nil)
	mustReseed(t, b, row(2, 32), []byte{})
	sameState(t, "Reseed", a, b)
}

// R3: arguments are neither changed nor kept, and results share no memory with the state or with each other.
func TestMemory(t *testing.T) {
	whole := bytes.Repeat([]byte("m"), 200)
	part := whole[:40]
	a, b := mustNew(t, part, part, part), mustNew(t, part, part, part)
	first := mustDraw(t, a, 60, part)
	mustReseed(t, a, part, part)
	want := bytes.Clone(first)
	second := mustDraw(t, a, 32, part)
	clear(second[:cap(second)])
	if !bytes.Equal(whole, bytes.Repeat([]byte("m"), 200)) || !bytes.Equal(first, want) {
		t.Fatalf("%q %x", whole, first)
	}
	clear(whole)
	clear(first[:cap(first)])
	kept := bytes.Repeat([]byte("m"), 40)
	mustDraw(t, b, 60, kept)
	mustReseed(t, b, kept, kept)
	mustDraw(t, b, 32, kept)
	sameState(t, "cleared memory", a, b)
}
