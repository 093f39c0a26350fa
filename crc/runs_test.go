package crc_test

import (
	"slices"
	"testing"

	"regatta/crc"
)

// turned is a text with the bits of a pattern turned from a place on: bits are counted from the lowest of the first byte on, and the pattern's lowest bit is that place's.
func turned(text []byte, place int, pattern uint64) []byte {
	out := slices.Clone(text)
	for i := range 64 {
		if pattern>>i&1 == 1 {
			out[(place+i)/8] ^= 1 << ((place + i) % 8)
		}
	}
	return out
}

func checkRun(t *testing.T, text []byte, place int, pattern uint64) {
	t.Helper()
	b := turned(text, place, pattern)
	if crc.Of(b) == crc.Of(text) {
		t.Fatalf("%v and %v have one sum: the bits %b were turned from %d on", text, b, pattern, place)
	}
}

// P11.3: each run of up to nine bits, at each place of a text.
func TestShortRuns(t *testing.T) {
	r := shuffled(30)
	for _, n := range []int{1, 2, 3, 5, 20} {
		text := textOf(r, n)
		for long := 1; long <= 9; long++ {
			for place := 0; place+long <= 8*n; place++ {
				for inner := range uint64(1) << max(long-2, 0) {
					checkRun(t, text, place, 1|1<<(long-1)|inner<<1)
				}
			}
		}
	}
}

// P11.3: runs of each length, at each place of a text: only their ends turned, all bits turned, and some between.
func TestRunsOfEachLength(t *testing.T) {
	r := shuffled(31)
	for _, n := range []int{1, 4, 5, 8, 13, 300} {
		text := textOf(r, n)
		for long := 1; long <= 32; long++ {
			for place := 0; place+long <= 8*n; place++ {
				ends, all := uint64(1)|1<<(long-1), uint64(1)<<long-1
				checkRun(t, text, place, ends)
				checkRun(t, text, place, all)
				for range 5 {
					checkRun(t, text, place, ends|r.Uint64()&all)
				}
			}
		}
	}
}

// difference is what becomes of a text's sum by turned bits.
func difference(text []byte, place int, pattern uint64) uint32 {
	return crc.Of(text) ^ crc.Of(turned(text, place, pattern))
}

// rank is how many of these are independent of one another, laid over each other.
func rank(list []uint32) int {
	var kept []uint32
	for _, x := range list {
		for _, k := range kept {
			x = min(x, x^k)
		}
		if x != 0 {
			kept = append(kept, x)
		}
	}
	return len(kept)
}

// P11.3: what turned bits change of the sum is what each of them changes alone, laid over each other.
func TestTurnedBitsAddUp(t *testing.T) {
	r := shuffled(32)
	for range 3000 {
		text := textOf(r, 8+r.IntN(60))
		place, pattern := r.IntN(8*len(text)-63), r.Uint64()
		want := uint32(0)
		for i := range 64 {
			want ^= difference(text, place+i, pattern>>i&1)
		}
		if got := difference(text, place, pattern); got != want {
			t.Fatalf("%v, %b from %d on: %d, want %d", text, pattern, place, got, want)
		}
	}
}

// P11.3: what any 32 bits in a row change of the sum, each alone, is independent of one another: as turned bits add up, no choice of some of them is missed.
func TestNoRunIsMissed(t *testing.T) {
	r := shuffled(33)
	for _, n := range []int{4, 5, 17, 300} {
		text := textOf(r, n)
		for place := range 8*n - 31 {
			var alone []uint32
			for i := range 32 {
				alone = append(alone, difference(text, place+i, 1))
			}
			if got := rank(alone); got != 32 {
				t.Fatalf("%d bytes, from the bit %d on: %d of 32 are independent", n, place, got)
			}
		}
	}
}

// P11.3: by the division the shortest run that isn't told has 33 bits, and it is the polynomial itself; so the promise's 32 is where it ends.
func TestRunThatIsNotTold(t *testing.T) {
	pattern := uint64(0)
	for i, c := range polynomial() {
		pattern |= uint64(c) << i
	}
	r := shuffled(34)
	for n := 5; n < 60; n++ {
		text := textOf(r, n)
		for place := range 8*n - 32 {
			if d := difference(text, place, pattern); d != 0 {
				t.Fatalf("%v, from %d on: %d", text, place, d)
			}
		}
	}
}

// P11.3: the run may lie over the ends of parts, and ahead of what More takes.
func TestRunsInParts(t *testing.T) {
	r := shuffled(35)
	for range 3000 {
		text := textOf(r, 5+r.IntN(40))
		long := 1 + r.IntN(32)
		ends, all := uint64(1)|1<<(long-1), uint64(1)<<long-1
		b := turned(text, r.IntN(8*len(text)-long+1), ends|r.Uint64()&all)
		places := placesOf(r, text, 4)
		if crc.Of(cut(text, places...)...) == crc.Of(cut(b, places...)...) {
			t.Fatalf("%v and %v have one sum", text, b)
		}
		if i := places[0]; crc.More(crc.Of(text[:i]), text[i:]) == crc.More(crc.Of(b[:i]), b[i:]) {
			t.Fatalf("%v and %v have one sum by More", text, b)
		}
	}
}
