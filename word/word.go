// Package word has what becomes of words of 16 bits.
package word

import (
	"cmp"
	"math"
	"strconv"

	"separatum/api"
)

// number is what a word may be read as: with a sign, or without.
type number interface{ int16 | uint16 }

// Int is w with its sign.
func Int(w uint16) int { return int(int16(w)) }

// Of is the word that is n, with a sign or without; false, if there is none.
func Of(n int) (uint16, bool) {
	if n < math.MinInt16 || n > math.MaxUint16 {
		return 0, false
	}
	return uint16(n), true
}

// Takes is how many words op takes; 0, if it is no op.
func Takes(op uint8) int {
	switch op {
	case api.OpINeg, api.OpIAbs, api.OpNot, api.OpOne:
		return 1
	}
	if op < api.OpIAdd || op > api.OpRow {
		return 0
	}
	return 2
}

// Within tells whether w is from low to high, all three with their sign, or without.
func Within(signed bool, w, low, high uint16) bool {
	if signed {
		return compare[int16](low, w) <= 0 && compare[int16](w, high) <= 0
	}
	return compare[uint16](low, w) <= 0 && compare[uint16](w, high) <= 0
}

// Text is w in decimal digits, with its sign, or without.
func Text(signed bool, w uint16) string {
	if signed {
		return strconv.Itoa(Int(w))
	}
	return strconv.Itoa(int(w))
}

// compare is below 0, 0, or above 0, as a is below b, is b, is above b.
func compare[N number](a, b uint16) int { return cmp.Compare(N(a), N(b)) }
