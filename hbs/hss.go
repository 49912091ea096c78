package hbs

import (
	"slices"

	"livery/api"
	"livery/hss"
	"livery/octet"
	"livery/param"
)

// hssNumberAt is where Id begins in a public key: after the number of levels and the codes of the first one.
const hssNumberAt = 3 * intLen

// hssKind is the kind of the keys with levels of trees of LMS.
type hssKind struct{}

func (hssKind) made(levels []api.Level, _, number uint32, draw [64]byte) (api.Secret, api.Errno) {
	if e := hss.May(levels); e != api.OK {
		return api.Secret{}, e
	}
	return api.Secret{
		Kind:   api.HbsHss,
		Levels: slices.Clone(levels),
		Id:     [idLen]byte(numbered(number, draw, nameId, idLen)),
		Seed:   derive(draw, nameSeed, seedLen(levels)),
	}, api.OK
}

func (hssKind) valid(s api.Secret) bool {
	return hss.May(s.Levels) == api.OK && len(s.Seed) == seedLen(s.Levels) && s.Xmss == 0 && len(s.Prf) == 0 && len(s.Pub) == 0
}

func (hssKind) encode(s api.Secret) []byte {
	b := []byte{byte(len(s.Levels))}
	for _, l := range s.Levels {
		b = octet.Join(b, octet.U32(l.Lms), octet.U32(l.Ots))
	}
	return octet.Join(b, s.Id[:], s.Seed)
}

func (hssKind) decode(take func(n int) []byte) api.Secret {
	s := api.Secret{Kind: api.HbsHss}
	for range take(1)[0] {
		s.Levels = append(s.Levels, api.Level{Lms: intOf(take(intLen)), Ots: intOf(take(intLen))})
	}
	s.Id = [idLen]byte(take(idLen))
	s.Seed = take(seedLen(s.Levels))
	return s
}

func (hssKind) count(s api.Secret) uint64 {
	n, _ := hss.Count(s.Levels)
	return n
}

func (hssKind) length(s api.Secret) int { return hss.Len(s.Levels) }

func (hssKind) public(s api.Secret) ([]byte, api.Errno) { return hss.Public(s.Levels, s.Id, s.Seed) }

func (hssKind) sign(s api.Secret, index uint64, msg []byte) ([]byte, api.Errno) {
	return hss.Sign(s.Levels, s.Id, s.Seed, index, msg)
}

func (hssKind) numberAt([]byte) int { return hssNumberAt }

func (hssKind) index(pub, sig []byte) (uint64, api.Errno) { return hss.Index(pub, sig) }

func (hssKind) verify(pub, msg, sig []byte) api.Errno { return hss.Verify(pub, msg, sig) }

// seedLen returns how many bytes the seed for levels has; 0 if their first one has no tree.
func seedLen(levels []api.Level) int {
	if len(levels) == 0 {
		return 0
	}
	l, _ := param.Lms(levels[0].Lms)
	return l.N
}
