package fix

import (
	"math"

	"regatta/api"
	"regatta/wide"
)

// How the 64 bits of a float lie: the sign, the exponent, and the bits of its fraction.
const (
	fraction     = 52
	exponent     = 11
	signBit      = fraction + exponent
	lastExponent = 1<<exponent - 1
	// lowest is the power of 2 that the last bit of the least numbers stands for.
	lowest = -1074
)

// beyond is a shift that brings each number but 0 beyond the range of a Fix; within it none leaves a wide number.
const beyond = 64

// FromFloat is a float64 as a Fix.
func FromFloat(f float64) (x api.Fix, held bool, e api.Errno) {
	if math.IsNaN(f) {
		return 0, false, api.ErrNaN
	}
	digits, power := apart(math.Float64bits(f))
	shift := power + places
	// One of both shifts is none: a shift below 0 counts as 0.
	x, held = hold(wide.Round(wide.Shl(wide.Of(digits), min(shift, beyond)), -shift))
	return x, held, api.OK
}

// Float is a Fix as a float64. It is rounded as it becomes a float; the division only changes the exponent.
func Float(a api.Fix) float64 {
	return float64(a) / float64(api.One)
}

// apart is the number that a float's bits stand for, as digits · 2^power. An infinity reads as 2^1024, which is beyond the range like itself.
func apart(b uint64) (digits int64, power int) {
	digits = int64(b & (1<<fraction - 1))
	power = lowest
	if step := int(b>>fraction) & lastExponent; step > 0 {
		digits |= 1 << fraction
		power += step - 1
	}
	if b>>signBit == 1 {
		digits = -digits
	}
	return digits, power
}
