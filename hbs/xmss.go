package hbs

import (
	"livery/api"
	"livery/octet"
	"livery/param"
	"livery/xmss"
)

// xmssKind is the kind of the keys with a tree of XMSS.
type xmssKind struct{}

func (xmssKind) made(_ []api.Level, code, number uint32, draw [64]byte) (api.Secret, api.Errno) {
	x, e := param.Xmss(code)
	if e != api.OK {
		return api.Secret{}, e
	}
	return api.Secret{
		Kind: api.HbsXmss,
		Xmss: code,
		Seed: derive(draw, nameSeed, x.N),
		Prf:  derive(draw, namePrf, x.N),
		Pub:  numbered(number, draw, namePub, x.N),
	}, api.OK
}

func (xmssKind) valid(s api.Secret) bool {
	x, e := param.Xmss(s.Xmss)
	return e == api.OK && len(s.Seed) == x.N && len(s.Prf) == x.N && len(s.Pub) == x.N && len(s.Levels) == 0 && s.Id == [idLen]byte{}
}

func (xmssKind) encode(s api.Secret) []byte {
	return octet.Join(octet.U32(s.Xmss), s.Seed, s.Prf, s.Pub)
}

func (xmssKind) decode(take func(n int) []byte) api.Secret {
	code := intOf(take(intLen))
	x, _ := param.Xmss(code) // without a set no bytes are taken
	return api.Secret{Kind: api.HbsXmss, Xmss: code, Seed: take(x.N), Prf: take(x.N), Pub: take(x.N)}
}

func (xmssKind) count(s api.Secret) uint64 { return 1 << xmssSet(s).H }

func (xmssKind) length(s api.Secret) int { return param.XmssLen(xmssSet(s)) }

func (xmssKind) public(s api.Secret) ([]byte, api.Errno) { return xmss.Public(xmssSet(s), xmssKey(s)) }

func (xmssKind) sign(s api.Secret, index uint64, msg []byte) ([]byte, api.Errno) {
	return xmss.Sign(xmssSet(s), xmssKey(s), uint32(index), msg)
}

// numberAt returns where Pub begins: after the code and the root.
func (xmssKind) numberAt(pub []byte) int {
	x, _ := setOf(pub)
	return intLen + x.N
}

func (xmssKind) index(pub, sig []byte) (uint64, api.Errno) {
	x, _ := setOf(pub)
	i, e := xmss.Index(x, sig)
	return uint64(i), e
}

func (xmssKind) verify(pub, msg, sig []byte) api.Errno { return xmss.Verify(pub, msg, sig) }

// setOf returns the set of a public key of XMSS, and whether it is one by its code and its length.
func setOf(pub []byte) (api.Xms, bool) {
	if len(pub) < intLen {
		return api.Xms{}, false
	}
	x, e := param.Xmss(intOf(pub[:intLen]))
	return x, e == api.OK && len(pub) == param.XmssPub(x)
}

// xmssSet returns the set of valid secrets.
func xmssSet(s api.Secret) api.Xms {
	x, _ := param.Xmss(s.Xmss)
	return x
}

// xmssKey returns the key of valid secrets.
func xmssKey(s api.Secret) api.XmssKey { return api.XmssKey{Seed: s.Seed, Prf: s.Prf, Pub: s.Pub} }
