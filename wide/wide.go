// Package wide is layer 1: whole numbers of 128 and 192 bits, and how they are rounded. See shared/doc/01-wide.md.
package wide

import (
	"cmp"
	"math"
	"math/bits"

	"regatta/api"
)

// The greatest counts of bits that a shift of a wide and of a long number takes by its rule; beyond them the chapter names the answer.
const (
	mostWide = 127
	mostLong = 191
)

// Of is a number of 64 bits as a wide one.
func Of(n int64) api.Wide {
	return api.Wide{Hi: n >> 63, Lo: uint64(n)}
}

// Add is a sum.
func Add(a, b api.Wide) api.Wide {
	lo, carry := bits.Add64(a.Lo, b.Lo, 0)
	hi, _ := bits.Add64(uint64(a.Hi), uint64(b.Hi), carry)
	return api.Wide{Hi: int64(hi), Lo: lo}
}

// Sub is a difference.
func Sub(a, b api.Wide) api.Wide {
	lo, borrow := bits.Sub64(a.Lo, b.Lo, 0)
	hi, _ := bits.Sub64(uint64(a.Hi), uint64(b.Hi), borrow)
	return api.Wide{Hi: int64(hi), Lo: lo}
}

// Neg is a number turned about 0.
func Neg(a api.Wide) api.Wide {
	return Sub(api.Wide{}, a)
}

// Cmp says which of two is the greater.
func Cmp(a, b api.Wide) int {
	return cmp.Or(cmp.Compare(a.Hi, b.Hi), cmp.Compare(a.Lo, b.Lo))
}

// Mul is a product, exact.
func Mul(a, b int64) api.Wide {
	hi, lo := bits.Mul64(uint64(a), uint64(b))
	// A factor below 0 was taken for one that is 2^64 greater: the other one is too much in the high word.
	if a < 0 {
		hi -= uint64(b)
	}
	if b < 0 {
		hi -= uint64(a)
	}
	return api.Wide{Hi: int64(hi), Lo: lo}
}

// Shl is a number times 2^n.
func Shl(a api.Wide, n int) api.Wide {
	n = max(n, 0)
	if n > 63 {
		return api.Wide{Hi: int64(a.Lo << (n - 64))}
	}
	return api.Wide{Hi: a.Hi<<n | int64(a.Lo>>(64-n)), Lo: a.Lo << n}
}

// Shr is a number by 2^n, down to a whole one.
func Shr(a api.Wide, n int) api.Wide {
	n = max(n, 0)
	if n > 63 {
		return Of(a.Hi >> (n - 64))
	}
	return api.Wide{Hi: a.Hi >> n, Lo: a.Lo>>n | uint64(a.Hi)<<(64-n)}
}

// Round is a number by 2^n, to the nearest whole one.
func Round(a api.Wide, n int) api.Wide {
	if n <= 0 {
		return a
	}
	if n > mostWide {
		return api.Wide{}
	}
	down := Shr(a, n)
	left := Sub(a, Shl(down, n))
	if goesUp(Cmp(left, Shl(Of(1), n-1)), down.Lo) {
		return Add(down, Of(1))
	}
	return down
}

// Quo is a quotient, to the nearest whole number.
func Quo(a api.Wide, d int64) (api.Wide, bool) {
	if d == 0 {
		return api.Wide{}, false
	}
	by := size(Of(d)).Lo
	q, left := divide(size(a), by)
	// Twice what is left stays within a word: left is below by, and by at most 2^63.
	if goesUp(cmp.Compare(2*left, by), q.Lo) {
		q = Add(q, Of(1))
	}
	if (a.Hi < 0) != (d < 0) {
		q = Neg(q)
	}
	return q, true
}

// Clamp is a number as one of 64 bits.
func Clamp(a api.Wide) (int64, bool) {
	low := int64(a.Lo)
	return clamped(low, a.Hi < 0, a.Hi == low>>63)
}

// clamped is low, if the number that it is the lowest word of fits it; else the end on the number's side.
func clamped(low int64, below, fits bool) (int64, bool) {
	switch {
	case fits:
		return low, false
	case below:
		return math.MinInt64, true
	}
	return math.MaxInt64, true
}

// size is a number without its sign, to be read as one that has none: so -2^127 has a size too.
func size(a api.Wide) api.Wide {
	if a.Hi < 0 {
		return Neg(a)
	}
	return a
}

// divide is a quotient of numbers without signs, down to a whole one, and what is left over.
func divide(a api.Wide, d uint64) (api.Wide, uint64) {
	hi, left := bits.Div64(0, uint64(a.Hi), d)
	lo, left := bits.Div64(left, a.Lo, d)
	return api.Wide{Hi: int64(hi), Lo: lo}, left
}

// goesUp is the one rule by which all is rounded: whether a number that was brought down to a whole one goes on to the next. side says where what was left out lies: below a half (-1), at it (0), above it (1); low is the lowest word of what it was brought down to.
func goesUp(side int, low uint64) bool {
	return side > 0 || side == 0 && low%2 == 1
}
