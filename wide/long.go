package wide

import (
	"math"
	"math/bits"

	"regatta/api"
)

// words are the words of a long number, the lowest first.
type words [3]uint64

// Extend is a wide number as a long one.
func Extend(a api.Wide) api.Long {
	return api.Long{Top: a.Hi >> 63, Mid: uint64(a.Hi), Low: a.Lo}
}

// Plus is a sum of long numbers.
func Plus(a, b api.Long) api.Long {
	return wordsOf(a).plus(wordsOf(b)).long()
}

// Near is a long number by 2^n, to the nearest whole one, clamped.
func Near(a api.Long, n int) (int64, bool) {
	n = max(n, 0)
	if n > mostLong {
		return 0, false
	}
	near := wordsOf(a).rounded(n).long()
	low := int64(near.Low)
	return clamped(low, near.Top < 0, near == Extend(Of(low)))
}

// Root is the root of a long number, down to a whole one, clamped.
func Root(a api.Long) (int64, bool) {
	if a.Top < 0 {
		return 0, true
	}
	if a.Top > 0 || a.Mid >= 1<<62 {
		return math.MaxInt64, true
	}
	square := api.Wide{Hi: int64(a.Mid), Lo: a.Low}
	var root int64
	for i := range 63 {
		next := root | 1<<(62-i)
		if Cmp(Mul(next, next), square) <= 0 {
			root = next
		}
	}
	return root, false
}

func wordsOf(a api.Long) words {
	return words{a.Low, a.Mid, uint64(a.Top)}
}

func (w words) long() api.Long {
	return api.Long{Top: int64(w[2]), Mid: w[1], Low: w[0]}
}

func (w words) plus(v words) words {
	var carry uint64
	for i := range len(w) {
		w[i], carry = bits.Add64(w[i], v[i], carry)
	}
	return w
}

// at is the i-th word: above the highest one the sign goes on without end.
func (w words) at(i int) uint64 {
	if i < len(w) {
		return w[i]
	}
	return uint64(int64(w[2]) >> 63)
}

// down is w by 2^n, down to a whole number; n is from 0 to mostLong.
func (w words) down(n int) words {
	var out words
	for i := range len(out) {
		from := i + n/64
		out[i] = w.at(from)>>(n%64) | w.at(from+1)<<(64-n%64)
	}
	return out
}

// rounded is w by 2^n, rounded; n is from 0 to mostLong.
func (w words) rounded(n int) words {
	out := w.down(n)
	if goesUp(w.side(n), out[0]) {
		out = out.plus(words{1})
	}
	return out
}

// side says where the n lowest bits, which down leaves out, lie: below a half (-1), at it (0), above it (1).
func (w words) side(n int) int {
	if n == 0 || w.bit(n-1) == 0 {
		return -1
	}
	if w.noughts() == n-1 {
		return 0
	}
	return 1
}

func (w words) bit(n int) uint64 {
	return w[n/64] >> (n % 64) & 1
}

// noughts is how many of the lowest bits are 0 ahead of the first 1.
func (w words) noughts() int {
	count := 0
	for i := range len(w) {
		count += bits.TrailingZeros64(w[i])
		if w[i] != 0 {
			break
		}
	}
	return count
}
