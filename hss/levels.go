package hss

import (
	"slices"

	"livery/api"
	"livery/param"
)

// mostHeight is the greatest sum of the heights of all levels.
const mostHeight = 60

// May tells whether levels are valid.
func May(l []api.Level) api.Errno {
	_, e := allSets(l)
	return e
}

// Count returns how many indices there are.
func Count(l []api.Level) (uint64, api.Errno) {
	all, e := allSets(l)
	if e != api.OK {
		return 0, e
	}
	return 1 << height(all), api.OK
}

// Split returns the leaves of an index, that of the top level first.
func Split(l []api.Level, index uint64) ([]uint32, api.Errno) {
	all, e := allSets(l)
	if e != api.OK {
		return nil, e
	}
	return split(all, index)
}

// Len returns how many bytes a signature has.
func Len(l []api.Level) int {
	all, e := allSets(l)
	if e != api.OK {
		return 0
	}
	size := intLen
	for i, s := range all {
		if i > 0 {
			size += param.LmsPub(s.lms)
		}
		size += param.LmsLen(s.lms, s.ots)
	}
	return size
}

// sets are the parameter sets of a level; where a code has none, it is the zero value.
type sets struct {
	lms api.Lms
	ots api.Ots
}

// hash is what levels must have in common.
type hash struct {
	shake bool
	n     int
}

func setsOf(v api.Level) sets {
	l, _ := param.Lms(v.Lms)
	o, _ := param.Ots(v.Ots)
	return sets{l, o}
}

// fit tells whether there can be such a level.
func (s sets) fit() bool { return param.Fit(s.lms, s.ots) }

// hash returns the hash of both sets, if they fit.
func (s sets) hash() hash { return hash{s.lms.Shake, s.lms.N} }

func (s sets) level() api.Level { return api.Level{Lms: s.lms.Code, Ots: s.ots.Code} }

// leaves returns how many leaves a tree of the level has.
func (s sets) leaves() uint64 { return 1 << s.lms.H }

func (s sets) hasLeaf(q uint32) bool { return uint64(q) < s.leaves() }

// allSets returns the sets of all levels, if these are valid.
func allSets(l []api.Level) ([]sets, api.Errno) {
	if len(l) < 1 || len(l) > api.MaxLevels {
		return nil, api.ErrLevels
	}
	all := make([]sets, len(l))
	for i, v := range l {
		all[i] = setsOf(v)
		if !all[i].fit() || all[i].hash() != all[0].hash() {
			return nil, api.ErrLevels
		}
	}
	if height(all) > mostHeight {
		return nil, api.ErrLevels
	}
	return all, api.OK
}

// height returns the sum of the heights of all levels.
func height(all []sets) int {
	sum := 0
	for _, s := range all {
		sum += s.lms.H
	}
	return sum
}

// split returns the leaves of an index, that of the top level first.
func split(all []sets, index uint64) ([]uint32, api.Errno) {
	leaves := make([]uint32, len(all))
	for i, s := range slices.Backward(all) {
		leaves[i] = uint32(index % s.leaves())
		index /= s.leaves()
	}
	if index > 0 { // above the top level there is no other tree
		return nil, api.ErrIndex
	}
	return leaves, api.OK
}
