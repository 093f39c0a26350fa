package crc_test

import (
	"math/rand/v2"
	"slices"
	"testing"
)

// overlaid is the number that the chapter names, as it writes it.
const overlaid = uint32(3988292384)

// next is a register behind one bit of a text, as the chapter's second wording says.
func next(register, bit uint32) uint32 {
	unlike := register&1 != bit
	register >>= 1
	if unlike {
		register ^= overlaid
	}
	return register
}

// through is a register behind all bits of a text.
func through(register uint32, b []byte) uint32 {
	for _, x := range b {
		for i := range 8 {
			register = next(register, uint32(x)>>i&1)
		}
	}
	return register
}

// modelMore is More by the register, bit by bit.
func modelMore(sum uint32, b []byte) uint32 { return ^through(^sum, b) }

// modelOf is the sum by the register, bit by bit.
func modelOf(b []byte) uint32 { return ^through(0xffffffff, b) }

// modelJoin is Join by the register, bit by bit.
func modelJoin(a, b uint32, n int) uint32 { return through(a, make([]byte, n)) ^ b }

// polynomial has the powers that the chapter names, the highest first.
func polynomial() []byte {
	out := make([]byte, 33)
	for _, power := range []int{32, 26, 23, 22, 16, 12, 11, 10, 8, 7, 5, 4, 2, 1, 0} {
		out[32-power] = 1
	}
	return out
}

// coefficients are the bits of a text, the lowest of each byte first.
func coefficients(b []byte) []byte {
	var out []byte
	for _, x := range b {
		for i := range 8 {
			out = append(out, x>>i&1)
		}
	}
	return out
}

// divided is the sum by a division of polynomials, coefficient by coefficient, as the chapter's first wording says.
func divided(b []byte) uint32 {
	row := append(coefficients(b), make([]byte, 32)...)
	for i := range 32 {
		row[i] ^= 1
	}
	by := polynomial()
	for ; len(row) > 32; row = row[1:] {
		if row[0] == 1 {
			for i, c := range by {
				row[i] ^= c
			}
		}
	}
	sum := uint32(0)
	for i, c := range row {
		sum |= uint32(c^1) << i
	}
	return sum
}

func shuffled(seed uint64) *rand.Rand { return rand.New(rand.NewPCG(seed, 11)) }

// textOf is a text of n bytes of all kinds, or of bytes that are all alike, or of a few bits.
func textOf(r *rand.Rand, n int) []byte {
	out := make([]byte, n)
	kind, alike := r.IntN(4), byte(r.Uint32())
	for i := range out {
		switch kind {
		case 0:
			out[i] = alike
		case 1:
			if r.IntN(8) == 0 {
				out[i] = 1 << r.IntN(8)
			}
		default:
			out[i] = byte(r.Uint32())
		}
	}
	return out
}

// numbers are sums that no text need have: the edges, each bit alone, each bit left out, and some of all kinds.
func numbers() []uint32 {
	out := []uint32{0, 1, 2, 0x7fffffff, 0x80000000, 0xfffffffe, 0xffffffff, overlaid, ^overlaid, 0xcbf43926}
	for i := range 32 {
		out = append(out, 1<<i, ^(uint32(1) << i))
	}
	r := shuffled(1)
	for range 50 {
		out = append(out, r.Uint32())
	}
	return out
}

// cut is a text in parts that end at these places, in order, with a last one behind them.
func cut(text []byte, places ...int) [][]byte {
	var out [][]byte
	from := 0
	for _, p := range places {
		out = append(out, text[from:p])
		from = p
	}
	return append(out, text[from:])
}

// placesOf are n places of a text in order, some of them twice and some at its ends.
func placesOf(r *rand.Rand, text []byte, n int) []int {
	out := make([]int, n)
	for i := range out {
		out[i] = r.IntN(len(text) + 1)
	}
	slices.Sort(out)
	return out
}

// The two wordings of the chapter say the same: what the tests are held against.
func TestModelsAgree(t *testing.T) {
	r := shuffled(2)
	for n := range 300 {
		b := textOf(r, n)
		if a, d := modelOf(b), divided(b); a != d || modelMore(0, b) != a {
			t.Fatalf("%v: %d by the register, %d by division", b, a, d)
		}
	}
}
