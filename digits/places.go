package digits

import (
	"strings"

	"regatta/api"
)

// stepBits is how many bits of a number lie behind its point: One is 2^stepBits steps.
const stepBits = 32

// places are the digits behind a point, each from 0 to 9, with noughts behind the last one. A number of steps needs at most stepBits of them, a text that is read may have them all.
type places [api.MaxPlaces]uint8

// placesOf are the digits of a number of steps that is below One.
func placesOf(steps uint64) places {
	var p places
	for i := range p {
		steps *= 10
		p[i] = uint8(steps >> stepBits)
		steps %= uint64(api.One)
	}
	return p
}

// placesIn are the digits of a text of at most MaxPlaces digits.
func placesIn(digits string) places {
	var p places
	for i, c := range digits {
		p[i] = uint8(c - '0')
	}
	return p
}

// text is p's digits without the noughts at their end.
func (p places) text() string {
	var b strings.Builder
	for _, d := range p {
		b.WriteByte('0' + d)
	}
	return strings.TrimRight(b.String(), "0")
}

// bits are the first n bits of p behind its point (n is at most 63); if there are more, the last one is set, so that none goes unseen when it is rounded.
func (p places) bits(n int) int64 {
	var out, bit int64
	for range n {
		p, bit = p.doubled()
		out = out<<1 | bit
	}
	if p != (places{}) {
		out |= 1
	}
	return out
}

// doubled is p times 2, and what of it lies ahead of the point: 0 or 1.
func (p places) doubled() (places, int64) {
	var over uint8
	for i := len(p) - 1; i >= 0; i-- {
		twice := 2*p[i] + over
		p[i], over = twice%10, twice/10
	}
	return p, int64(over)
}
