// Package wide: numbers of 128 bits; see doc/01-wide.md.
package wide

import (
	"cmp"
	"math"
	"math/bits"

	"weirhouse/api"
)

// Cmp returns -1, 0 or 1 if a is less than, equal to or greater than b.
func Cmp(a, b api.Wide) int {
	if a.Hi != b.Hi {
		return cmp.Compare(a.Hi, b.Hi)
	}
	return cmp.Compare(a.Lo, b.Lo)
}

// Add returns a + b modulo 2^128, and whether the sum overflows.
func Add(a, b api.Wide) (api.Wide, bool) {
	lo, carry := bits.Add64(a.Lo, b.Lo, 0)
	hi, carry := bits.Add64(a.Hi, b.Hi, carry)
	return api.Wide{Hi: hi, Lo: lo}, carry != 0
}

// Sub returns a - b modulo 2^128, and whether a is less than b.
func Sub(a, b api.Wide) (api.Wide, bool) {
	lo, borrow := bits.Sub64(a.Lo, b.Lo, 0)
	hi, borrow := bits.Sub64(a.Hi, b.Hi, borrow)
	return api.Wide{Hi: hi, Lo: lo}, borrow != 0
}

// Mul returns the product of a and b, which always fits.
func Mul(a, b uint64) api.Wide {
	hi, lo := bits.Mul64(a, b)
	return api.Wide{Hi: hi, Lo: lo}
}

// Div returns a / b, rounded down, and the remainder, or ErrRange if b is 0.
func Div(a api.Wide, b uint64) (api.Wide, uint64, api.Errno) {
	if b == 0 {
		return api.Wide{}, 0, api.ErrRange
	}
	// Long division by words: bits.Div64 panics unless the upper word is less
	// than the divisor, which a remainder of the same divisor always is.
	hi, rest := a.Hi/b, a.Hi%b
	lo, rest := bits.Div64(rest, a.Lo, b)
	return api.Wide{Hi: hi, Lo: lo}, rest, api.OK
}

// Gcd returns the greatest common divisor of a and b (0 if both are 0).
func Gcd(a, b uint64) uint64 {
	for b != 0 {
		a, b = b, a%b
	}
	return a
}

// Lcm returns the least common multiple of a and b (0 if one of them is 0).
func Lcm(a, b uint64) api.Wide {
	// Two zeros have the gcd 0, by which nothing can be divided.
	if a == 0 || b == 0 {
		return api.Wide{}
	}
	return Mul(a/Gcd(a, b), b)
}

// Sat returns a + b, or 2^128 - 1 if the sum overflows.
func Sat(a, b api.Wide) api.Wide {
	sum, over := Add(a, b)
	if over {
		return api.Wide{Hi: math.MaxUint64, Lo: math.MaxUint64}
	}
	return sum
}
