// Package bits is layer 1: fields of words. See shared/doc/01-bits.md.
package bits

import "quoin/api"

const (
	wordBits = 32
	// mostFits is one less than an int has, so that both ends of what fits are ints themselves.
	mostFits = 63
)

// Take is the field of w that has n bits from the bit at on, as a number.
func Take(w uint32, at, n int) (uint32, api.Errno) {
	if !isField(at, n) {
		return 0, api.ErrArg
	}
	return (w >> at) & mask(n), api.OK
}

// Put is w with v in the field that has n bits from the bit at on.
func Put(w uint32, at, n int, v uint32) (uint32, api.Errno) {
	if !isField(at, n) || v > mask(n) {
		return 0, api.ErrArg
	}
	return w&^(mask(n)<<at) | v<<at, api.OK
}

// Sign is the number whose n lowest bits are v, the highest of these telling whether it is below 0.
func Sign(v uint32, n int) (int, api.Errno) {
	if n < 1 || n > wordBits || v > mask(n) {
		return 0, api.ErrArg
	}
	if v>>(n-1) == 1 {
		return int(v) - 1<<n, api.OK
	}
	return int(v), api.OK
}

// Fits tells whether v is a number of n bits, one of them its sign.
func Fits(v, n int) bool {
	if n < 1 || n > mostFits {
		return false
	}
	half := 1 << (n - 1)
	return -half <= v && v <= half-1
}

// Scatter is the word whose bit places[i] is bit i of v, and whose other bits are 0.
func Scatter(v uint32, places []int) (uint32, api.Errno) {
	if e := checkPlaces(places); e != api.OK {
		return 0, e
	}
	if v > mask(len(places)) {
		return 0, api.ErrArg
	}
	var w uint32
	for i, p := range places {
		w |= (v >> i & 1) << p
	}
	return w, api.OK
}

// Gather is the number whose bit i is bit places[i] of w.
func Gather(w uint32, places []int) (uint32, api.Errno) {
	if e := checkPlaces(places); e != api.OK {
		return 0, e
	}
	var v uint32
	for i, p := range places {
		v |= (w >> p & 1) << i
	}
	return v, api.OK
}

// isField takes at from 32, and does not add n to it, since that sum might wrap round.
func isField(at, n int) bool {
	return 0 <= at && at < wordBits && 1 <= n && n <= wordBits-at
}

// mask is n ones, n being from 0 to 32: only a long word holds the 2^32 that the last of them needs.
func mask(n int) uint32 {
	return uint32(uint64(1)<<n - 1)
}

// checkPlaces notes each place as a bit of one word, so that a place that comes again is seen at once.
func checkPlaces(places []int) api.Errno {
	if len(places) > wordBits {
		return api.ErrMany
	}
	var seen uint32
	for _, p := range places {
		if p < 0 || p >= wordBits || seen>>p&1 == 1 {
			return api.ErrArg
		}
		seen |= 1 << p
	}
	return api.OK
}
