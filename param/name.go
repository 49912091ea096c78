package param

import (
	"iter"

	"livery/api"
	"livery/octet"
)

// How the names of each kind begin.
const (
	otsHead  = "LMOTS_"
	lmsHead  = "LMS_"
	xmssHead = "XMSS-"
)

// Name returns the name of the set of that kind with that code.
func Name(kind int, code uint32) string {
	switch kind {
	case api.KindOts:
		if o, e := Ots(code); e == api.OK {
			return otsHead + lmsHash(o.Shake) + "_N" + decimal(o.N) + "_W" + decimal(o.W)
		}
	case api.KindLms:
		if l, e := Lms(code); e == api.OK {
			return lmsHead + lmsHash(l.Shake) + "_M" + decimal(l.N) + "_H" + decimal(l.H)
		}
	case api.KindXmss:
		if x, e := Xmss(code); e == api.OK {
			return xmssHead + xmssHash(x.Shake) + "_" + decimal(x.H) + "_" + decimal(8*x.N)
		}
	}
	return ""
}

// lmsHash returns how LM-OTS and LMS name a hash.
func lmsHash(shake bool) string {
	if shake {
		return "SHAKE"
	}
	return "SHA256"
}

// xmssHash returns how XMSS names a hash.
func xmssHash(shake bool) string {
	if shake {
		return "SHAKE256"
	}
	return "SHA2"
}

func decimal(n int) string { return octet.Decimal(uint64(n)) }

// Code returns the kind and the code of the set with that name.
func Code(name string) (int, uint32, api.Errno) {
	switch headOf(name) {
	case otsHead:
		return named(name, api.KindOts, OtsCodes())
	case lmsHead:
		return named(name, api.KindLms, LmsCodes())
	case xmssHead:
		return named(name, api.KindXmss, XmssCodes())
	}
	return 0, 0, api.ErrCode
}

// headOf returns the name up to its first separator, with that; "" if there is none.
func headOf(name string) string {
	for i, r := range name {
		if r == '_' || r == '-' {
			return name[:i+1]
		}
	}
	return ""
}

// named returns the kind, and which of its codes has the set with that name.
func named(name string, kind int, codes iter.Seq[uint32]) (int, uint32, api.Errno) {
	for code := range codes {
		if Name(kind, code) == name {
			return kind, code, api.OK
		}
	}
	return 0, 0, api.ErrCode
}
