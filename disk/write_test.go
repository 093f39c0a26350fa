package disk_test

import (
	"bytes"
	"math"
	"slices"
	"strings"
	"testing"

	"regatta/api"
)

// P15.2: what is written is read at once, and safe behind a flush.
func TestWriteReadFlush(t *testing.T) {
	d := made(t, 3)
	must(t, d.Write(1, []byte("one")))
	checkState(t, d, 3, false, []int{1})
	checkRead(t, d, "", "one", "")
	checkSafe(t, d, "", "", "")
	must(t, d.Flush())
	checkState(t, d, 3, false, nil)
	checkBlocks(t, d, "", "one", "")
	must(t, d.Flush())
	checkBlocks(t, d, "", "one", "")
}

// P15.2: the first block, the last one, and what are none.
func TestBlocksAtTheEnds(t *testing.T) {
	for _, n := range []int{1, 2, 5, api.MaxBlocks} {
		d := made(t, n)
		for _, i := range []int{n, n + 1, -1, -n, 1 << 32, -1 << 32, math.MinInt, math.MaxInt} {
			checkFault(t, d.Write(i, []byte("x")), api.ErrBlock)
			checkAnswer(t, "Read", d.Read, i, nil, api.ErrBlock)
			checkAnswer(t, "Safe", d.Safe, i, nil, api.ErrBlock)
		}
		checkState(t, d, n, false, nil)
		for _, i := range slices.Compact([]int{0, n - 1}) {
			must(t, d.Write(i, []byte("there")))
			checkAnswer(t, "Read", d.Read, i, filled("there"), api.OK)
			checkAnswer(t, "Safe", d.Safe, i, filled(""), api.OK)
			must(t, d.Flush())
			checkAnswer(t, "Read", d.Read, i, filled("there"), api.OK)
			checkAnswer(t, "Safe", d.Safe, i, filled("there"), api.OK)
		}
	}
}

// P15.2: writes of each length up to a block's, over what stood there: noughts are behind them.
func TestLengths(t *testing.T) {
	p := newPair(t, 2)
	full := bytes.Repeat([]byte{0xff}, 128)
	for n := range 129 {
		p.write(0, full)
		p.flush()
		p.write(0, full[:n])
		p.flush()
		checkSafe(t, p.d, strings.Repeat("\xff", n))
	}
	for n := 129; n < 300; n++ {
		checkFault(t, p.d.Write(0, make([]byte, n)), api.ErrBig)
		p.check()
	}
	checkFault(t, p.d.Write(0, make([]byte, 1<<20)), api.ErrBig)
	p.check()
}

// P15.2: a write of nothing is one: the block becomes noughts.
func TestWriteNothing(t *testing.T) {
	for _, nothing := range [][]byte{nil, {}} {
		d := made(t, 1)
		must(t, d.Write(0, []byte("text")))
		must(t, d.Flush())
		must(t, d.Write(0, nothing))
		checkState(t, d, 1, false, []int{0})
		checkRead(t, d, "")
		checkSafe(t, d, "text")
		must(t, d.Flush())
		checkBlocks(t, d, "")
		must(t, d.Write(0, nothing))
		checkState(t, d, 1, false, []int{0})
		must(t, d.Crash([]api.Fate{kept()}))
		checkBlocks(t, d, "")
	}
}

// P15.2: which error comes first.
func TestOrderOfErrors(t *testing.T) {
	much := make([]byte, 129)
	d := made(t, 2)
	checkFault(t, d.Write(2, much), api.ErrBlock)
	checkFault(t, d.Write(-1, much), api.ErrBlock)
	checkFault(t, d.Write(1, much), api.ErrBig)
	checkState(t, d, 2, false, nil)
	must(t, d.Write(1, []byte("safe")))
	must(t, d.Flush())
	d.Arm(0)
	checkFault(t, d.Write(2, much), api.ErrBlock)
	checkFault(t, d.Write(1, much), api.ErrBig)
	checkState(t, d, 2, false, nil)
	checkFault(t, d.Flush(), api.ErrDown)
	for _, i := range []int{-1, 0, 1, 2, math.MinInt, math.MaxInt} {
		checkFault(t, d.Write(i, much), api.ErrDown)
		checkFault(t, d.Write(i, nil), api.ErrDown)
		checkAnswer(t, "Read", d.Read, i, nil, api.ErrDown)
	}
	checkState(t, d, 2, true, nil)
	checkSafe(t, d, "", "safe")
	checkAnswer(t, "Safe", d.Safe, 2, nil, api.ErrBlock)
	checkAnswer(t, "Safe", d.Safe, -1, nil, api.ErrBlock)
}

// P15.2: several writes of one block are under way together: the last one is read, and is what a flush leaves.
func TestOneBlockSeveralTimes(t *testing.T) {
	d := made(t, 2)
	must(t, d.Write(0, []byte("first, and long")))
	must(t, d.Write(1, []byte("other")))
	checkRead(t, d, "first, and long", "other")
	must(t, d.Write(0, []byte("second")))
	checkRead(t, d, "second", "other")
	must(t, d.Write(0, []byte("3")))
	checkRead(t, d, "3", "other")
	checkSafe(t, d, "", "")
	checkState(t, d, 2, false, []int{0, 1, 0, 0})
	must(t, d.Flush())
	checkState(t, d, 2, false, nil)
	checkBlocks(t, d, "3", "other")
	must(t, d.Write(0, []byte("new")))
	must(t, d.Write(0, nil))
	checkRead(t, d, "", "other")
	checkSafe(t, d, "3", "other")
	must(t, d.Flush())
	checkBlocks(t, d, "", "other")
}

// P15.2: the blocks of the writes are told in their order, one as often as it was written.
func TestUnder(t *testing.T) {
	d := made(t, 9)
	var want []int
	for _, i := range []int{5, 0, 8, 5, 5, 3, 0, 8, 1} {
		must(t, d.Write(i, []byte{byte(i)}))
		checkFault(t, d.Write(9, nil), api.ErrBlock)
		checkFault(t, d.Write(i, make([]byte, 129)), api.ErrBig)
		want = append(want, i)
		checkState(t, d, 9, false, want)
	}
	must(t, d.Flush())
	checkState(t, d, 9, false, nil)
	must(t, d.Write(2, nil))
	checkState(t, d, 9, false, []int{2})
	must(t, d.Crash(nil))
	checkState(t, d, 9, false, nil)
}

// P15.2: blocks become noughts again, by a flush, by a fall, and by a torn write, and are written anew.
func TestNoughtsAgain(t *testing.T) {
	p := newPair(t, 2)
	noughts := make([]byte, 128)
	for _, nothing := range [][]byte{nil, {0}, noughts} {
		for range 2 {
			p.write(0, []byte("abc"))
			p.flush()
			p.write(0, nothing)
			p.flush()
			checkBlocks(t, p.d, "", "")
			p.write(0, []byte("d"))
			p.crash(kept())
			checkBlocks(t, p.d, "d", "")
			p.write(0, nothing)
			p.crash(kept())
			checkBlocks(t, p.d, "", "")
			p.write(0, []byte("xyz"))
			p.crash(torn(2))
			checkBlocks(t, p.d, "xy", "")
			p.write(0, nothing)
			p.crash(torn(1))
			checkBlocks(t, p.d, "\x00y", "")
			p.write(0, nothing)
			p.crash(torn(2))
			checkBlocks(t, p.d, "", "")
		}
	}
}

// P15.2: as many blocks as a disk may have, all written twice, and flushed together.
func TestAllBlocks(t *testing.T) {
	d := made(t, api.MaxBlocks)
	textAt := func(i int) []byte { return []byte{byte(i), byte(i >> 8), 1} }
	var under []int
	for i := range api.MaxBlocks {
		must(t, d.Write(i, []byte("ahead")))
		under = append(under, i)
	}
	for i := api.MaxBlocks - 1; i >= 0; i-- {
		must(t, d.Write(i, textAt(i)))
		under = append(under, i)
	}
	checkState(t, d, api.MaxBlocks, false, under)
	must(t, d.Flush())
	for i := range api.MaxBlocks {
		checkAnswer(t, "Read", d.Read, i, filled(string(textAt(i))), api.OK)
		checkAnswer(t, "Safe", d.Safe, i, filled(string(textAt(i))), api.OK)
	}
}
