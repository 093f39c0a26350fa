package journal_test

import (
	"math"
	"slices"
	"testing"

	"regatta/api"
)

// P17.3: generations from 1 to the greatest are begun; those below aren't, and change nothing, begun or not.
func TestBegin(t *testing.T) {
	wrong := []int{0, -1, -2, -1 << 32, math.MinInt + 1, math.MinInt}
	for _, gen := range []int{1, 2, 255, 256, 65536, 1 << 32, 0x0102030405060708, math.MaxInt - 1, math.MaxInt} {
		d, j := fresh(t, 4)
		for _, no := range wrong {
			checkBegin(t, j, no, api.ErrArg)
			checkNotBegun(t, j)
		}
		checkBegin(t, j, gen, api.OK)
		checkLeft(t, j, 4)
		checkTold(t, j, gen)
		appendAll(t, j, "a")
		for _, no := range wrong {
			checkBegin(t, j, no, api.ErrArg)
			checkLeft(t, j, 3)
		}
		appendAll(t, j, "b")
		checkTold(t, j, gen, "a", "b")
		checkImage(t, d, append(imageFor(gen, []byte("a"), []byte("b")), make([]byte, 256)...))
	}
}

// P17.3: nothing is written, and the disk isn't asked for anything: it may be down.
func TestBeginWritesNothing(t *testing.T) {
	d, j := fresh(t, 3)
	lay(t, d, 0, textOf(shuffled(10), 3*128))
	must(t, d.Write(1, []byte("under way")))
	image := imageOf(d)
	d.Arm(1)
	for gen := -2; gen <= 5; gen++ {
		j.Begin(gen)
	}
	checkLeft(t, j, 3)
	checkImage(t, d, image)
	if !slices.Equal(d.Under(), []int{1}) {
		t.Fatalf("under way: %v", d.Under())
	}
	checkArmed(t, d, 1)
	checkBegin(t, j, 0, api.ErrArg)
	checkBegin(t, j, 6, api.OK)
	checkLeft(t, j, 3)
	must(t, d.Crash(nil))
	checkLeft(t, j, 3)
	appendAll(t, j, "a")
	checkTold(t, j, 6, "a")
}

// P17.3: the next record is the first one of the generation, at the journal's first block, wherever the one ahead was.
func TestBeginAnother(t *testing.T) {
	d, j := begun(t, 5, 1)
	appendAll(t, j, "a", "b", "c")
	checkBegin(t, j, 2, api.OK)
	checkLeft(t, j, 5)
	checkTold(t, j, 1, "a", "b", "c")
	checkTold(t, j, 2)
	appendAll(t, j, "new")
	checkLeft(t, j, 4)
	checkTold(t, j, 1)
	checkTold(t, j, 2, "new")
	appendAll(t, j, "newer")
	checkTold(t, j, 2, "new", "newer")
	want := append(imageFor(2, []byte("new"), []byte("newer")), blocksFor(1, 3, []byte("c"))...)
	checkImage(t, d, append(want, make([]byte, 256)...))
	checkBegin(t, j, 1, api.OK)
	checkLeft(t, j, 5)
	checkTold(t, j, 1)
	checkTold(t, j, 2, "new", "newer")
}

// P17.3: the same generation begun once more: what is there of it stays until it is written over, and is read behind what is new, if its number goes on from there.
func TestBeginTheSame(t *testing.T) {
	_, j := begun(t, 6, 7)
	appendAll(t, j, "a", "b", "c")
	for range 2 {
		checkBegin(t, j, 7, api.OK)
		checkLeft(t, j, 6)
		checkTold(t, j, 7, "a", "b", "c")
	}
	appendAll(t, j, "x")
	checkLeft(t, j, 5)
	checkTold(t, j, 7, "x", "b", "c")
	appendAll(t, j, "y", "z", "more")
	checkTold(t, j, 7, "x", "y", "z", "more")
	checkBegin(t, j, 7, api.OK)
	checkAppend(t, j, make([]byte, 105), api.OK)
	checkRead(t, j, 7, [][]byte{make([]byte, 105)}, api.OK)
	checkLeft(t, j, 4)
}

// P17.3: behind a fall it is begun anew.
func TestBeginBehindAFall(t *testing.T) {
	d, j := begun(t, 4, 1)
	appendAll(t, j, "a")
	d.Arm(0)
	checkAppend(t, j, []byte("b"), api.ErrDown)
	checkNotBegun(t, j)
	checkBegin(t, j, -1, api.ErrArg)
	checkNotBegun(t, j)
	checkBegin(t, j, 2, api.OK)
	checkLeft(t, j, 4)
	checkAppend(t, j, []byte("b"), api.ErrDown)
	checkNotBegun(t, j)
	checkBegin(t, j, 3, api.OK)
	must(t, d.Crash(nil))
	checkLeft(t, j, 4)
	checkTold(t, j, 1, "a")
	appendAll(t, j, "new")
	checkTold(t, j, 3, "new")
	checkTold(t, j, 1)
}
