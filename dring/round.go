package dring

import "livery/api"

const (
	lowStep  = 1 << api.DLow   // of Power2Round
	highStep = 2 * api.DGamma2 // of Decompose
)

// Power2Round splits each coefficient into a multiple of 8192 and what is left, which may be negative.
func Power2Round(a api.DPoly) (high, low api.DPoly) {
	for i, x := range Reduce(a) {
		high[i], low[i] = split(x, lowStep)
	}
	return high, low
}

// Decompose splits each coefficient into one of the 16 multiples of its step and what is left, which may be negative.
func Decompose(a api.DPoly) (high, low api.DPoly) {
	for i, x := range Reduce(a) {
		high[i], low[i] = split(x, highStep)
		if high[i] == api.DSteps { // that many steps are q - 1, which is one less than none modulo q
			high[i] = 0
			low[i]--
		}
	}
	return high, low
}

// MakeHint marks where the high part changes if z is added to r, and counts the marks.
func MakeHint(z, r api.DPoly) (api.Hint, int) {
	before, _ := Decompose(r)
	after, _ := Decompose(Add(r, z))
	var h api.Hint
	count := 0
	for i, x := range before {
		if after[i] != x {
			h[i] = true
			count++
		}
	}
	return h, count
}

// UseHint returns the high parts of r; where there is a mark, the one of the neighbouring step that is nearer.
func UseHint(h api.Hint, r api.DPoly) api.DPoly {
	high, low := Decompose(r)
	for i, marked := range h {
		if marked {
			high[i] = neighbour(high[i], low[i])
		}
	}
	return high
}

// neighbour returns the number of the step after or before the high one, on the side of low.
func neighbour(high, low int32) int32 {
	if low > 0 {
		return (high + 1) % api.DSteps
	}
	return (high + api.DSteps - 1) % api.DSteps
}

// split returns x, which is not negative, as a number of steps and the rest, which is greater than minus half a step and at most half a step.
func split(x, step int32) (count, rest int32) {
	rest = x % step
	if rest > step/2 {
		rest -= step
	}
	return (x - rest) / step, rest
}
