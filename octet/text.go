package octet

import (
	"strconv"
	"strings"
	"unicode/utf8"

	"livery/api"
)

const digits = "0123456789abcdef"

// Hex returns two hexadecimal digits for each byte.
func Hex(b []byte) string {
	text := make([]byte, 0, 2*len(b))
	for _, x := range b {
		text = append(text, digits[x>>4], digits[x&15])
	}
	return string(text)
}

// Unhex returns the bytes whose Hex is s and the number of runes of s; if there are none, the number of the digits before the fault.
func Unhex(s string) ([]byte, int, api.Errno) {
	b := make([]byte, 0, len(s)/2)
	var high byte
	count := 0
runes:
	for _, r := range s {
		d, ok := digitOf(r)
		switch {
		case !ok:
			break runes
		case count%2 == 0:
			high = d
		default:
			b = append(b, high<<4|d)
		}
		count++
	}
	// A digit is one byte: where the loop was left, fewer than len(s) were counted.
	if count < len(s) || count%2 != 0 {
		return nil, count, api.ErrHex
	}
	return b, count, api.OK
}

// digitOf returns the value of a hexadecimal digit; upper-case letters are none.
func digitOf(r rune) (byte, bool) {
	switch {
	case '0' <= r && r <= '9':
		return byte(r - '0'), true
	case 'a' <= r && r <= 'f':
		return byte(r - 'a' + 10), true
	}
	return 0, false
}

// Runes returns the number of runes of s.
func Runes(s string) int {
	count := 0
	for range s {
		count++
	}
	return count
}

// Label tells whether s is a label.
func Label(s string) bool {
	count := 0
	for _, r := range s {
		if count == api.MaxLabel || !inLabel(r) {
			return false
		}
		count++
	}
	return count > 0
}

// inLabel tells whether a label may have the rune r.
func inLabel(r rune) bool {
	switch r {
	case ' ', 0xA0, 0x2028, 0x2029, 0x3000, '"', '\\', utf8.RuneError:
		return false
	}
	return r >= 0x20 && (r < 0x7F || r > 0x9F)
}

// Quote returns s between double quotes, with what needs it escaped.
func Quote(s string) string {
	var q strings.Builder
	q.WriteByte('"')
	for i, r := range s {
		switch {
		case r == '"' || r == '\\':
			q.WriteByte('\\')
			q.WriteRune(r)
		case r < 0x20 || r == 0x7F || invalid(r, s[i:]):
			q.WriteString("\\x" + Hex([]byte{s[i]}))
		default:
			q.WriteRune(r)
		}
	}
	q.WriteByte('"')
	return q.String()
}

// invalid tells whether r, the first rune of rest, is an invalid byte: U+FFFD that is not encoded as such.
func invalid(r rune, rest string) bool {
	return r == utf8.RuneError && !strings.HasPrefix(rest, string(r))
}

// Unquote returns the string whose Quote is q.
func Unquote(q string) (string, api.Errno) {
	s := unescape(strings.TrimSuffix(strings.TrimPrefix(q, `"`), `"`))
	// Whatever is wrong in q shows when s is quoted again: a quote that is missing, an escape that is malformed or needless.
	if Quote(s) != q {
		return "", api.ErrQuote
	}
	return s, api.OK
}

// unescape returns text, as far as its first malformed escape, with each escape replaced by its byte.
func unescape(text string) string {
	var s strings.Builder
	next := 0 // where the last escape ends
runes:
	for i, r := range text {
		switch {
		case i < next:
			continue
		case r == '\\':
			b, size := escape(text[i:])
			if size == 0 {
				break runes
			}
			s.WriteByte(b)
			next = i + size
		default:
			s.WriteRune(r)
		}
	}
	return s.String()
}

// escape returns the byte of the escape with which text begins, and how many bytes it takes: 0 if it is malformed.
func escape(text string) (byte, int) {
	switch {
	case len(text) >= 2 && (text[1] == '"' || text[1] == '\\'):
		return text[1], 2
	case len(text) >= 4 && text[1] == 'x':
		if b, _, e := Unhex(text[2:4]); e == api.OK {
			return b[0], 4
		}
	}
	return 0, 0
}

// Decimal returns n in decimal digits.
func Decimal(n uint64) string {
	return strconv.FormatUint(n, 10)
}

// Number returns the integer whose Decimal is s.
func Number(s string) (uint64, api.Errno) {
	n, err := strconv.ParseUint(s, 10, 64)
	if err != nil || Decimal(n) != s {
		return 0, api.ErrDigit
	}
	return n, api.OK
}
