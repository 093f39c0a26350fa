package frame_test

import (
	"bytes"
	"testing"

	"regatta/api"
	"regatta/frame"
)

// checkRun turns the bits of a pattern in a sealed frame's payload, from a place on, and turns them back: bits are counted from the lowest of the payload's first byte on, and the pattern's lowest bit is that place's.
func checkRun(t *testing.T, b []byte, place int, pattern uint64) {
	t.Helper()
	turn := func() {
		for i := range 64 {
			if pattern>>i&1 == 1 {
				b[8+(place+i)/8] ^= 1 << ((place + i) % 8)
			}
		}
	}
	turn()
	checkFault(t, b, api.ErrSum)
	turn()
}

// P13.5: each run of up to eight bits, at each place of a payload.
func TestShortRuns(t *testing.T) {
	r := shuffled(50)
	for _, n := range []int{1, 2, 4, 20} {
		b := sealed(t, 1+r.IntN(255), textOf(r, n))
		for long := 1; long <= 8; long++ {
			for place := 0; place+long <= 8*n; place++ {
				for inner := range uint64(1) << max(long-2, 0) {
					checkRun(t, b, place, 1|1<<(long-1)|inner<<1)
				}
			}
		}
	}
}

// P13.5: runs of each length up to thirty-two, at each place of a payload: only their ends turned, all bits turned, and some between.
func TestRunsOfEachLength(t *testing.T) {
	r := shuffled(51)
	for _, n := range []int{1, 4, 5, 13, 200} {
		b := sealed(t, 1+r.IntN(255), textOf(r, n))
		for long := 1; long <= 32; long++ {
			for place := 0; place+long <= 8*n; place++ {
				ends, all := uint64(1)|1<<(long-1), uint64(1)<<long-1
				checkRun(t, b, place, ends)
				checkRun(t, b, place, all)
				checkRun(t, b, place, ends|r.Uint64()&all)
			}
		}
	}
}

// P13.5: runs in the longest payload, at its ends and within it.
func TestRunsInTheLongestPayload(t *testing.T) {
	r := shuffled(52)
	b := sealed(t, 12, textOf(r, api.MaxPayload))
	bits := 8 * api.MaxPayload
	for long := 1; long <= 32; long++ {
		for _, place := range []int{0, 1, 7, bits / 2, r.IntN(bits - 32), bits - long} {
			checkRun(t, b, place, uint64(1)|1<<(long-1)|r.Uint64()&(uint64(1)<<long-1))
		}
	}
	if _, _, e := frame.Open(b); e != api.OK {
		t.Fatal(e)
	}
}

// P13.3 to P13.5: a frame with a turned bit among others: Split ends there, Hunt leaves it out.
func TestTurnedAmongOthers(t *testing.T) {
	_, forms := someFrames(53, 2)
	middle := formOf(77, []byte("the one between"))
	first, last := forms[0], forms[1]
	for bit := range 8 * 15 {
		spoilt := bytes.Clone(middle)
		spoilt[8+bit/8] ^= 1 << (bit % 8)
		b := bytes.Join([][]byte{first, spoilt, last}, nil)
		checkSplit(t, b, []api.Frame{foundIn(0, first).Frame}, len(first), api.ErrSum)
		checkHunt(t, b, foundIn(0, first), foundIn(len(first)+len(middle), last))
	}
}
