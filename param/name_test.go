package param

import (
	"fmt"
	"iter"
	"math"
	"strings"
	"testing"

	"livery/api"
)

// set is a kind and a code.
type set struct {
	kind int
	code uint32
}

// allNames are the sets of all names.
func allNames() map[string]set {
	names := map[string]set{}
	hash := map[bool]string{false: "SHA256", true: "SHAKE"}
	for _, o := range allOts() {
		names[fmt.Sprintf("LMOTS_%s_N%d_W%d", hash[o.Shake], o.N, o.W)] = set{1, o.Code}
	}
	for _, l := range allLms() {
		names[fmt.Sprintf("LMS_%s_M%d_H%d", hash[l.Shake], l.N, l.H)] = set{2, l.Code}
	}
	hash = map[bool]string{false: "SHA2", true: "SHAKE256"}
	for _, x := range allXmss() {
		names[fmt.Sprintf("XMSS-%s_%d_%d", hash[x.Shake], x.H, 8*x.N)] = set{3, x.Code}
	}
	return names
}

// P6.1, P6.3: names, and back.
func TestNames(t *testing.T) {
	names := allNames()
	if len(names) != 80 {
		t.Fatal("the table is wrong")
	}
	for name, s := range names {
		if n := Name(s.kind, s.code); n != name {
			t.Errorf("Name(%d, %#x): %q, not %q", s.kind, s.code, n, name)
		}
		if kind, code, e := Code(name); e != api.OK || kind != s.kind || code != s.code {
			t.Errorf("Code(%q): %d %#x %d", name, kind, code, e)
		}
	}
}

// P6.1: names as the standards and the chapter write them.
func TestKnownNames(t *testing.T) {
	for name, s := range map[string]set{
		"LMOTS_SHA256_N32_W1":  {api.KindOts, 1},
		"LMOTS_SHA256_N24_W1":  {api.KindOts, 5},
		"LMOTS_SHAKE_N32_W8":   {api.KindOts, 12},
		"LMOTS_SHAKE_N24_W4":   {api.KindOts, 15},
		"LMS_SHA256_M32_H5":    {api.KindLms, 5},
		"LMS_SHA256_M24_H10":   {api.KindLms, 11},
		"LMS_SHAKE_M32_H15":    {api.KindLms, 17},
		"LMS_SHAKE_M24_H25":    {api.KindLms, 24},
		"LMS_SHAKE_M24_H2":     {api.KindLms, 0xF0000032},
		"LMS_SHA256_M24_H3":    {api.KindLms, 0xF0000013},
		"XMSS-SHA2_10_256":     {api.KindXmss, 1},
		"XMSS-SHA2_16_192":     {api.KindXmss, 14},
		"XMSS-SHAKE256_20_256": {api.KindXmss, 18},
		"XMSS-SHAKE256_10_192": {api.KindXmss, 19},
		"XMSS-SHAKE256_4_192":  {api.KindXmss, 0xF1000034},
		"XMSS-SHA2_1_256":      {api.KindXmss, 0xF1000001},
	} {
		kind, code, e := Code(name)
		if e != api.OK || kind != s.kind || code != s.code || Name(s.kind, s.code) != name {
			t.Errorf("%s: %d %#x %d, %q", name, kind, code, e, Name(s.kind, s.code))
		}
	}
}

// P6.1: there are three kinds.
func TestNoKind(t *testing.T) {
	for _, kind := range []int{math.MinInt, -3, -1, 0, 4, 5, 257, math.MaxInt} {
		for _, codes := range []iter.Seq[uint32]{OtsCodes(), LmsCodes(), XmssCodes()} {
			for code := range codes {
				if n := Name(kind, code); n != "" {
					t.Errorf("Name(%d, %#x): %q", kind, code, n)
				}
			}
		}
	}
}

// noName checks that no set has the name.
func noName(t *testing.T, name string) {
	t.Helper()
	if kind, code, e := Code(name); e != api.ErrCode || kind != 0 || code != 0 {
		t.Errorf("Code(%.100q): %d %#x %d", name, kind, code, e)
	}
}

// P6.1: what is no set's name.
func TestCodeErrors(t *testing.T) {
	for _, name := range []string{
		"", "_", "-", "LMS", "LMS_", "LMOTS", "LMOTS_", "XMSS", "XMSS-", "XMSS_", "\x00", "\xff", "\xffLMS_SHA256_M32_H5",
		"lms_sha256_m32_h5", "LMS_SHA256_N32_H5", "LMS_SHA256_M32_W5", "LMS_SHA2_M32_H5", "LMS_SHAKE256_M32_H5", "LMS-SHA256_M32_H5",
		"LMS_SHA256_M32_H0", "LMS_SHA256_M32_H05", "LMS_SHA256_M32_H6", "LMS_SHA256_M32_H30", "LMS_SHA256_M16_H5", "LMS_SHA256_M032_H5", "LMS_SHA256_H5_M32",
		"LMS_SHA256_M192_H5", "LMS_SHA256_M32_H+5", "LMS_SHA256_M32_H5_", "LMS_SHA256_M32-H5", "LMS_SHA256_M32__H5", "LMS_SHA256_M32H5", "LMS_SHA256_M32_H",
		"LMS_SHA256_M32_H\uff15", "LMS_SHA256_M32_H5\x00", "LMS_SHA256_M32_H5\xff", "LMS_SHA256_M32_H5 ", " LMS_SHA256_M32_H5", "\ufeffLMS_SHA256_M32_H5",
		"LMS_SHA256_M32_H4294967301", "LMS_SHA256_M32_H18446744073709551621",
		"LMOTS_SHA256_N32_W0", "LMOTS_SHA256_N32_W3", "LMOTS_SHA256_N32_W16", "LMOTS_SHA256_N16_W8", "LMOTS_SHA256_M32_W8", "LMOTS_SHA256_N32_H5", "LMOTS-SHA256_N32_W8", "LMOTS_SHA2_N32_W8",
		"XMSS_SHA2_10_256", "XMSS-SHA256_10_256", "XMSS-SHAKE_10_256", "XMSS-SHAKE128_10_256", "XMSS-SHA2_5_256", "XMSS-SHA2_0_256", "XMSS-SHA2_10_512", "XMSS-SHA2_10_32", "XMSS-SHA2_256_10",
		"XMSS-SHA2-10-256", "XMSS-SHA2_H10_256", "XMSSMT-SHA2_20/2_256", "LMS_SHA256_M24_H3/LMOTS_SHA256_N24_W4",
		strings.Repeat("_", 1<<20), strings.Repeat("A", 1<<20), strings.Repeat("\xff", 1<<20), "LMS_SHA256_M32_H5" + strings.Repeat("0", 1<<20),
	} {
		noName(t, name)
	}
}

// P6.1: a name of which a byte is missing, changed or added is none, or another set's.
func TestCodeOfChangedNames(t *testing.T) {
	names := allNames()
	check := func(name string) {
		t.Helper()
		s, ok := names[name]
		if !ok {
			noName(t, name)
		} else if kind, code, e := Code(name); e != api.OK || kind != s.kind || code != s.code {
			t.Errorf("Code(%q): %d %#x %d", name, kind, code, e)
		}
	}
	for name := range names {
		for i := range len(name) {
			check(name[:i])
			check(name[i:])
			check(name[:i] + name[i+1:])
			for _, c := range []byte("0123456789_- WHNMShs\x00\xff") {
				check(name[:i] + string([]byte{c}) + name[i+1:])
				check(name[:i] + string([]byte{c}) + name[i:])
				check(name + string([]byte{c}))
			}
		}
	}
}
