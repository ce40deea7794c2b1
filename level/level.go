// Package level is layer 1: an order of all floating numbers, and shares of whole numbers, exactly. See shared/doc/01-level.md.
package level

import (
	"math"
	"math/bits"

	"nuncio/api"
)

// theNaN are the bits that stand for every NaN.
const theNaN = 0x7FF8000000000001

// figures are the binary ones that a float64 has, the hidden one with them.
const figures = 53

// Order tells which number comes first: -1, if a does; 1, if b does; 0, if they are one.
func Order(a, b float64) int {
	if math.IsNaN(a) || math.IsNaN(b) {
		return toInt(math.IsNaN(a)) - toInt(math.IsNaN(b))
	}
	if a < b {
		return -1
	}
	if a > b {
		return 1
	}
	// Of numbers that are neither less nor more than each other the two zeros alone differ in their signs.
	return toInt(math.Signbit(b)) - toInt(math.Signbit(a))
}

func toInt(is bool) int {
	if is {
		return 1
	}
	return 0
}

// Above tells whether a number's value is above a whole one.
func Above(f float64, n int) bool {
	if f >= 1<<63 {
		return true
	}
	if math.IsNaN(f) || f < -1<<63 {
		return false
	}
	// n as a float64 could be rounded; the whole part of f fits exactly, both as an int64 and as a float64.
	whole := int64(f)
	return whole > int64(n) || whole == int64(n) && f > float64(whole)
}

// Exceeds tells whether part is more than total times level.
func Exceeds(part, total int, level float64) (bool, api.Errno) {
	if math.IsNaN(level) || level <= 0 || level > 1 {
		return false, api.ErrLevel
	}
	if part < 0 || total < 0 || total > api.MaxPower {
		return false, api.ErrArg
	}
	// A whole number is more than the product just if it is more than the product's whole part.
	return uint64(part) > wholeShare(uint64(total), level), api.OK
}

// wholeShare is the whole part of total times level, for a total of at most MaxPower and a level above 0 and at most 1.
func wholeShare(total uint64, level float64) uint64 {
	fraction, exponent := math.Frexp(level)
	// The level is mantissa parted by 2^shift, exactly: the product of whole numbers has 103 figures at most.
	mantissa := uint64(fraction * (1 << figures))
	shift := figures - exponent
	high, low := bits.Mul64(total, mantissa)
	if shift >= 64 {
		return high >> (shift - 64)
	}
	return high<<(64-shift) | low>>shift
}

// Bits are a number's: those of all NaNs are the same.
func Bits(f float64) uint64 {
	if math.IsNaN(f) {
		return theNaN
	}
	return math.Float64bits(f)
}

// Of is the number of which these are the Bits.
func Of(bits uint64) (float64, api.Errno) {
	f := math.Float64frombits(bits)
	if Bits(f) != bits {
		return 0, api.ErrLevel
	}
	return f, api.OK
}
