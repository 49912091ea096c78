package octet

import (
	"bytes"
	"fmt"
	"math"
	"math/rand"
	"strings"
	"testing"

	"livery/api"
)

// P1.4: two digits for each byte, and back (P1.7).
func TestHex(t *testing.T) {
	if h := Hex(nil); h != "" {
		t.Error(h)
	}
	for n := range 256 {
		if h := Hex([]byte{byte(n), 7}); h != fmt.Sprintf("%02x07", n) {
			t.Errorf("Hex of %d: %s", n, h)
		}
	}
	draw := rand.New(rand.NewSource(5))
	for size := range 100 {
		b := make([]byte, size)
		draw.Read(b)
		h := Hex(b)
		c, n, e := Unhex(h)
		if e != api.OK || n != 2*size || !bytes.Equal(c, b) || Hex(c) != h {
			t.Errorf("Unhex(%s): %v %d %d", h, c, n, e)
		}
	}
}

// P1.4: the runes before the first one that is not a digit, or all if one is missing.
func TestUnhexErrors(t *testing.T) {
	for _, c := range []struct {
		s string
		n int
	}{
		{"0", 1},
		{"012", 3},
		{"0g", 1},
		{"g0", 0},
		{"00g", 2},
		{"000g", 3},
		{"AB", 0},
		{"aB", 1},
		{"aF", 1},
		{"ab ", 2},
		{" ab", 0},
		{"/0", 0},
		{"0:", 1},
		{"`0", 0},
		{"0x00", 1},
		{"a\u00e9", 1},
		{"\u00e9a", 0},
		{"\uff10\uff10", 0},
		{"\u0130\u0130", 0}, // whose last eight bits are a digit
		{"ab\xff", 2},
		{"ab\ufffd\ufffd", 2},
		{"a\x00", 1},
		{"abcg" + strings.Repeat("0", 100), 3},
	} {
		if b, n, e := Unhex(c.s); b != nil || n != c.n || e != api.ErrHex {
			t.Errorf("Unhex(%q): %v %d %d", c.s, b, n, e)
		}
	}
	if b, n, e := Unhex(""); len(b) != 0 || n != 0 || e != api.OK {
		t.Error(b, n, e)
	}
}

// P1.4: exactly 0 to 9 and a to f are digits.
func TestDigits(t *testing.T) {
	for r := range rune(0x400) {
		b, n, e := Unhex("0" + string(r))
		v := strings.IndexRune("0123456789abcdef", r)
		if v >= 0 && (e != api.OK || n != 2 || !bytes.Equal(b, []byte{byte(v)})) || v < 0 && (e != api.ErrHex || n != 1 || b != nil) {
			t.Errorf("Unhex of 0 and %q: %v %d %d", r, b, n, e)
		}
	}
}

// P1.5: an invalid byte is one rune.
func TestRunes(t *testing.T) {
	for _, c := range []struct {
		s string
		n int
	}{
		{"", 0},
		{"abc", 3},
		{"\u20ac\xff", 2},
		{"\ufffd", 1},
		{"\xef\xbf", 2},
		{"\xe2\x82\xac\xe2\x82", 3},
		{"\xed\xa0\x80", 3},
		{"\U0001f600", 1},
		{"\xc0\x80", 2},
		{"\x00\x7f", 2},
	} {
		if n := Runes(c.s); n != c.n {
			t.Errorf("Runes(%q): %d", c.s, n)
		}
	}
}

// P1.5: which runes a label has.
func TestLabelRunes(t *testing.T) {
	barred := map[rune]bool{0x7F: true, ' ': true, 0xA0: true, 0x2028: true, 0x2029: true, 0x3000: true, '"': true, '\\': true, 0xFFFD: true}
	for r := range rune(0x11000) {
		if r >= 0xD800 && r < 0xE000 {
			continue // not a rune that UTF-8 encodes
		}
		want := !barred[r] && r >= 0x20 && (r < 0x80 || r >= 0xA0)
		for _, s := range []string{string(r), string(r) + "a", "a" + string(r)} {
			if Label(s) != want {
				t.Errorf("Label(%q) is %t", s, !want)
			}
		}
	}
	if !Label("k\u00e9y-1") || !Label("\U0001f600") || !Label("'") {
		t.Error("not a label")
	}
	for _, s := range []string{"a\xff", "\x80", "a\xe2\x82", "\xed\xa0\x80", "\xc1\x81"} {
		if Label(s) {
			t.Errorf("%q is a label", s)
		}
	}
}

// P1.5: a label has 1 to MaxLabel runes, not bytes.
func TestLabelLengths(t *testing.T) {
	for _, r := range []string{"a", "\u00e9", "\u20ac", "\U0001f600"} {
		for n := range 2 * api.MaxLabel {
			if s := strings.Repeat(r, n); Label(s) != (n >= 1 && n <= api.MaxLabel) {
				t.Errorf("Label of %d runes is %t", n, Label(s))
			}
		}
	}
}

// quoted are strings and their quotes.
var quoted = []struct{ s, q string }{
	{"", `""`},
	{"abc", `"abc"`},
	{" a b ", `" a b "`},
	{`"`, `"\""`},
	{`\`, `"\\"`},
	{`\"`, `"\\\""`},
	{`\x41`, `"\\x41"`},
	{"\x00\x01\x1f\x20", `"\x00\x01\x1f "`},
	{"\t\n\r", `"\x09\x0a\x0d"`},
	{"\x7e\x7f", `"~\x7f"`},
	{"\u0080\u0085\u009f\u00a0", "\"\u0080\u0085\u009f\u00a0\""},
	{"\u2028\u3000\u00e9\U0001f600", "\"\u2028\u3000\u00e9\U0001f600\""},
	{"\xff", `"\xff"`},
	{"\x80\xbf", `"\x80\xbf"`},
	{"\ufffd", "\"\ufffd\""},
	{"\xef\xbf", `"\xef\xbf"`},
	{"\xef\ufffd", "\"\\xef\ufffd\""},
	{"\ufffd\xbd", "\"\ufffd\\xbd\""},
	{"\xed\xa0\x80", `"\xed\xa0\x80"`},
	{"\xc0\x80", `"\xc0\x80"`},
	{"\xf4\x90\x80\x80", `"\xf4\x90\x80\x80"`},
	{"\xe2\x82x\xac", `"\xe2\x82x\xac"`},
	{"a\"\xff\ufffd", "\"a\\\"\\xff\ufffd\""},
}

// P1.5, P1.7: what is escaped, and how.
func TestQuote(t *testing.T) {
	for _, c := range quoted {
		if q := Quote(c.s); q != c.q {
			t.Errorf("Quote(%q): %q", c.s, q)
		}
		if s, e := Unquote(c.q); e != api.OK || s != c.s {
			t.Errorf("Unquote(%q): %q %d", c.q, s, e)
		}
	}
}

// P1.5: what is not the quote of a string.
func TestUnquoteErrors(t *testing.T) {
	for _, q := range []string{
		"", `"`, `a`, `abc`, `"a`, `a"`, `'a'`, ` ""`, `"" `, `""a`, `"a"b"`, `"""`, `""""`,
		`"\"`, `"\\\"`, `"\a"`, `"\n"`, `"\ "`, `"a\`, `"\`, `\"`, `\""`,
		`"\x"`, `"\x0"`, `"\x0`, `"\xg0"`, `"\x0g"`, `"\xFF"`, `"\xfF"`, `"\X00"`, `"\x 0"`, `"\x0`,
		`"\x41"`, `"\x20"`, `"\x22"`, `"\x5c"`, `"\x7e"`,
		`"\xc3\xa9"`, `"\xef\xbf\xbd"`, `"\xc2\x80"`, `"\xe2\x82\xac"`, `"a\xf0\x9f\x98\x80"`,
		"\"\xff\"", "\"\xe2\x82\"", "\"\xc3", "\"\\xe2\x82\xac\"", "\"\\x\u00e9\"", "\"\\x0\u00e9\"", "\"\\\u00e9\"", "\"\\\xff\"",
		"\"\x00\"", "\"\n\"", "\"\x1f\"", "\"\x7f\"",
	} {
		if s, e := Unquote(q); e != api.ErrQuote || s != "" {
			t.Errorf("Unquote(%q): %q %d", q, s, e)
		}
	}
}

// P1.5, P1.7: a string is the one of its quote, and no other string has that.
func TestQuoteRoundTrips(t *testing.T) {
	draw := rand.New(rand.NewSource(6))
	pieces := []string{`"`, `\`, `\x`, "a", "41", "ff", "\x00", "\x7f", "\xff", "\xef", "\xbf", "\xbd", "\xc3", "\xa9", "\ufffd", "\u00e9", "\u0085", "\U0001f600"}
	for range 20000 {
		var text strings.Builder
		for range draw.Intn(7) {
			text.WriteString(pieces[draw.Intn(len(pieces))])
		}
		s := text.String()
		if u, e := Unquote(Quote(s)); e != api.OK || u != s {
			t.Errorf("Unquote(%q): %q %d", Quote(s), u, e)
		}
		for _, q := range []string{s, `"` + s + `"`} {
			if u, e := Unquote(q); e == api.OK && Quote(u) != q || e != api.OK && (e != api.ErrQuote || u != "") {
				t.Errorf("Unquote(%q): %q %d", q, u, e)
			}
		}
	}
}

// P1.9: a label is quoted as it is.
func TestQuoteOfLabels(t *testing.T) {
	for r := range rune(0x11000) {
		for _, s := range []string{string(r), "k" + string(r) + "1"} {
			if Label(s) && Quote(s) != `"`+s+`"` {
				t.Errorf("Quote(%q): %q", s, Quote(s))
			}
		}
	}
}

// P1.6: integers and their digits.
func TestDecimal(t *testing.T) {
	for _, c := range []struct {
		n uint64
		s string
	}{
		{0, "0"},
		{1, "1"},
		{9, "9"},
		{10, "10"},
		{90210, "90210"},
		{math.MaxInt64, "9223372036854775807"},
		{1 << 63, "9223372036854775808"},
		{10000000000000000000, "10000000000000000000"},
		{math.MaxUint64, "18446744073709551615"},
	} {
		if s := Decimal(c.n); s != c.s {
			t.Errorf("Decimal(%d): %s", c.n, s)
		}
		if n, e := Number(c.s); e != api.OK || n != c.n {
			t.Errorf("Number(%s): %d %d", c.s, n, e)
		}
	}
	draw := rand.New(rand.NewSource(7))
	for range 1000 {
		n := draw.Uint64() >> draw.Intn(64)
		if m, e := Number(Decimal(n)); e != api.OK || m != n {
			t.Errorf("Number(%s): %d %d", Decimal(n), m, e)
		}
	}
}

// P1.6: what is not the decimal of an integer.
func TestNumberErrors(t *testing.T) {
	for _, s := range []string{
		"", "00", "01", "007", "-1", "-0", "+1", " 1", "1 ", "1\n", "1_000", "1,000", "1.0", "1e3", "0x1", "0b1", "a", "1a", "ff",
		"\u0661", "\uff11", "1\u00e9", "1\xff", "\x00", "1\x00",
		"18446744073709551616", "18446744073709551620", "18446744073709551700", "20000000000000000000", "36893488147419103232",
		"99999999999999999999", "100000000000000000000", "018446744073709551615", strings.Repeat("9", 1000), strings.Repeat("0", 1000),
	} {
		if n, e := Number(s); e != api.ErrDigit || n != 0 {
			t.Errorf("Number(%q): %d %d", s, n, e)
		}
	}
}
