package rand

import (
	"slices"

	"regatta/api"
)

// tripRounds is how many rounds a trip has; the places that a round draws its words at begin roundPlaces behind those of the round ahead of it.
const (
	tripRounds  = 4
	roundPlaces = 1024
)

// halves are the upper and the lower bits of a number, as many of each.
type halves struct {
	upper, lower int
}

// round is a step of a trip.
type round func(h halves) halves

// Place is where a number below n goes.
func Place(k api.Key, n, i int) (int, api.Errno) {
	if !within(n, i) {
		return 0, api.ErrArg
	}
	b := halfBits(n)
	return travel(rounds(k, b), b, n, i), api.OK
}

// Back is the number that goes to a place.
func Back(k api.Key, n, j int) (int, api.Errno) {
	if !within(n, j) {
		return 0, api.ErrArg
	}
	b := halfBits(n)
	return travel(backwards(rounds(k, b)), b, n, j), api.OK
}

// within says whether n numbers may be put in an order, and i is one of them.
func within(n, i int) bool {
	return n >= 1 && n <= api.MaxDim && i >= 0 && i < n
}

// halfBits is how many bits each half has, if the halves together are to have room for n numbers.
func halfBits(n int) int {
	b := 1
	for 1<<(2*b) < n {
		b++
	}
	return b
}

// rounds are the rounds of a trip there.
func rounds(k api.Key, b int) []round {
	var list []round
	for t := range tripRounds {
		list = append(list, func(h halves) halves {
			return halves{upper: h.lower, lower: h.upper ^ lowest(b, Word(k, roundPlaces*t+h.lower))}
		})
	}
	return list
}

// backwards are the rounds of the trip back. A round with its halves swapped, made once more, and swapped again is undone; of the swaps between two rounds nothing is left.
func backwards(there []round) []round {
	list := append([]round{swapped}, there...)
	slices.Reverse(list[1:])
	return append(list, swapped)
}

func swapped(h halves) halves {
	return halves{upper: h.lower, lower: h.upper}
}

func lowest(b int, word uint64) int {
	return int(word & (1<<b - 1))
}

// travel makes trips from x on until one ends below n. No two numbers' trips end at one, so that they go round in circles: x is below n itself, and is come back to if nothing else below n is met ahead of it.
func travel(trip []round, b, n, x int) int {
again:
	h := halves{upper: x >> b, lower: lowest(b, uint64(x))}
	for _, next := range trip {
		h = next(h)
	}
	x = h.upper<<b | h.lower
	if x >= n {
		goto again
	}
	return x
}
