// Package wide is numbers of 128 bits without a sign. See ../../shared/doc/02-wide.md.
package wide

import (
	"math/bits"

	"weighbridge/api"
)

// longest is how many digits the greatest number has.
const longest = 39

// Of tells a number as a wide one.
func Of(n uint64) api.Wide {
	return api.Wide{Lo: n}
}

// Less tells which of two is less.
func Less(a, b api.Wide) bool {
	if a.Hi != b.Hi {
		return a.Hi < b.Hi
	}
	return a.Lo < b.Lo
}

// Add tells a sum, and whether it goes beyond.
func Add(a, b api.Wide) (api.Wide, bool) {
	lo, carry := bits.Add64(a.Lo, b.Lo, 0)
	hi, carry := bits.Add64(a.Hi, b.Hi, carry)
	return api.Wide{Hi: hi, Lo: lo}, carry != 0
}

// Sub tells a difference, and whether it is below 0.
func Sub(a, b api.Wide) (api.Wide, bool) {
	lo, borrow := bits.Sub64(a.Lo, b.Lo, 0)
	hi, borrow := bits.Sub64(a.Hi, b.Hi, borrow)
	return api.Wide{Hi: hi, Lo: lo}, borrow != 0
}

// Mul tells a product.
func Mul(a, b uint64) api.Wide {
	x, y := halves(a), halves(b)
	parts := [4]uint64{x[0] * y[0], x[0] * y[1], x[1] * y[0], x[1] * y[1]}
	var sum api.Wide
	for i := range len(parts) {
		// The bits of i say which halves made the part: each high one is worth 2^32.
		sum, _ = Add(sum, raise(parts[i], 32*(i>>1+i&1)))
	}
	return sum
}

// Div tells a quotient, and the rest.
func Div(a api.Wide, n uint64) (api.Wide, uint64) {
	if n == 0 {
		return api.Wide{}, 0
	}
	hi := a.Hi / n
	// What the high word leaves is less than n, so the second quotient fits its word.
	lo, rest := bits.Div64(a.Hi%n, a.Lo, n)
	return api.Wide{Hi: hi, Lo: lo}, rest
}

// Cap tells a number, but at most another one.
func Cap(a api.Wide, most uint64) uint64 {
	if Less(a, Of(most)) {
		return a.Lo
	}
	return most
}

// Text tells a number's digits.
func Text(a api.Wide) string {
	var digits [longest]byte
	at := len(digits)
	for {
		var digit uint64
		a, digit = Div(a, 10)
		at--
		digits[at] = '0' + byte(digit)
		if a == Of(0) {
			return string(digits[at:])
		}
	}
}

// halves tells the low and the high 32 bits of a number.
func halves(n uint64) [2]uint64 {
	return [2]uint64{n & (1<<32 - 1), n >> 32}
}

// raise tells a number times a power of two, up to 2^64.
func raise(n uint64, power int) api.Wide {
	return api.Wide{Hi: n >> (64 - power), Lo: n << power}
}
