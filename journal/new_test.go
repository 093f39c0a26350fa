package journal_test

import (
	"math"
	"math/big"
	"slices"
	"testing"

	"regatta/api"
	"regatta/disk"
	"regatta/journal"
)

// checkRefused sees to it that there is no such journal.
func checkRefused(t *testing.T, d *disk.Disk, at, size int, fault api.Errno) {
	t.Helper()
	if j, e := journal.New(d, at, size); j != nil || e != fault {
		t.Fatalf("New(%d blocks, %d, %d): %v, %d; want %d", d.Blocks(), at, size, j, e, fault)
	}
}

// P17.1: sizes and places at their ends.
func TestNew(t *testing.T) {
	for _, x := range []struct {
		blocks, at, size int
		fault            api.Errno
	}{
		{5, 0, 1, api.OK},
		{5, 0, 5, api.OK},
		{5, 0, 6, api.ErrArg},
		{5, 0, 0, api.ErrArg},
		{5, 0, -1, api.ErrArg},
		{5, 0, -5, api.ErrArg},
		{5, 4, 1, api.OK},
		{5, 5, 1, api.ErrArg},
		{5, 5, 0, api.ErrArg},
		{5, 6, -1, api.ErrArg},
		{5, -1, 1, api.ErrArg},
		{5, -1, 5, api.ErrArg},
		{5, -1, 6, api.ErrArg},
		{5, -5, 1, api.ErrArg},
		{5, 2, 3, api.OK},
		{5, 3, 3, api.ErrArg},
		{5, 2, 4, api.ErrArg},
		{1, 0, 1, api.OK},
		{1, 1, 1, api.ErrArg},
		{1, 0, 2, api.ErrArg},
		{api.MaxBlocks, 0, api.MaxBlocks, api.OK},
		{api.MaxBlocks, 0, api.MaxBlocks + 1, api.ErrArg},
		{api.MaxBlocks, 1, api.MaxBlocks, api.ErrArg},
		{api.MaxBlocks, 1, api.MaxBlocks - 1, api.OK},
		{api.MaxBlocks, api.MaxBlocks - 1, 1, api.OK},
		{api.MaxBlocks, api.MaxBlocks, 1, api.ErrArg},
		{api.MaxBlocks, api.MaxBlocks - 1, 2, api.ErrArg},
	} {
		d := madeDisk(t, x.blocks)
		if x.fault != api.OK {
			checkRefused(t, d, x.at, x.size, x.fault)
			continue
		}
		j := made(t, d, x.at, x.size)
		checkNotBegun(t, j)
		checkBegin(t, j, 1, api.OK)
		checkLeft(t, j, x.size)
		appendAll(t, j, "one")
		checkTold(t, j, 1, "one")
		if b, _ := d.Safe(x.at); string(b[:4]) != "one\x00" {
			t.Fatalf("block %d: %q", x.at, b)
		}
	}
}

// checkNotBegun sees to it that a journal has nothing left, and takes nothing.
func checkNotBegun(t *testing.T, j *journal.Journal) {
	t.Helper()
	checkLeft(t, j, 0)
	for _, record := range [][]byte{nil, {}, []byte("a"), make([]byte, api.MaxRecord), make([]byte, api.MaxRecord+1)} {
		checkAppend(t, j, record, api.ErrState)
	}
	checkLeft(t, j, 0)
}

// P17.1: all places and sizes about small disks: a journal, if each of its blocks is on the disk.
func TestNewOnSmallDisks(t *testing.T) {
	for blocks := 1; blocks <= 9; blocks++ {
		d := madeDisk(t, blocks)
		for at := -3; at <= blocks+3; at++ {
			for size := -3; size <= blocks+3; size++ {
				all := size >= 1 && at >= 0
				for i := at; i <= at+size-1; i++ {
					all = all && i >= 0 && i < blocks
				}
				if all {
					made(t, d, at, size)
				} else {
					checkRefused(t, d, at, size, api.ErrArg)
				}
			}
		}
	}
}

// P17.1: nothing overflows, at the ends of an int neither.
func TestNewAtTheEnds(t *testing.T) {
	var list []int
	for _, mid := range []int{0, 1 << 13, 1 << 14, 1 << 31, 1 << 32, 1 << 62, -1 << 14, -1 << 31, -1 << 32, -1 << 62, math.MinInt, math.MaxInt} {
		for k := -3; k <= 3; k++ {
			list = append(list, mid+k)
		}
	}
	for _, blocks := range []int{1, 2, 3, 8192, api.MaxBlocks} {
		d := madeDisk(t, blocks)
		for _, at := range list {
			for _, size := range list {
				end := new(big.Int).Add(big.NewInt(int64(at)), big.NewInt(int64(size)))
				if size >= 1 && at >= 0 && end.Cmp(big.NewInt(int64(blocks))) <= 0 {
					made(t, d, at, size)
				} else {
					checkRefused(t, d, at, size, api.ErrArg)
				}
			}
		}
	}
}

// P17.1: of what is no disk there is no journal: that comes ahead of all other errors.
func TestNewOfNoDisk(t *testing.T) {
	for _, d := range []*disk.Disk{nil, {}, new(disk.Disk)} {
		for _, at := range []int{0, 1, -1, math.MinInt, math.MaxInt} {
			for _, size := range []int{1, 0, -1, 2, api.MaxBlocks, api.MaxBlocks + 1, math.MinInt, math.MaxInt} {
				checkRefused(t, d, at, size, api.ErrNil)
			}
		}
	}
}

// P17.1: it writes nothing, right or wrong, and asks the disk for nothing that counts.
func TestNewWritesNothing(t *testing.T) {
	d := madeDisk(t, 5)
	lay(t, d, 0, textOf(shuffled(1), 5*128))
	must(t, d.Write(3, []byte("under way")))
	image := imageOf(d)
	d.Arm(2)
	made(t, d, 0, 5)
	made(t, d, 3, 2)
	checkRefused(t, d, 3, 3, api.ErrArg)
	if !slices.Equal(d.Under(), []int{3}) {
		t.Fatalf("under way: %v", d.Under())
	}
	checkImage(t, d, image)
	checkArmed(t, d, 2)
}

// P17.1: a disk that is down is one.
func TestNewOnADiskThatIsDown(t *testing.T) {
	d := madeDisk(t, 3)
	d.Arm(0)
	d.Flush()
	checkRefused(t, d, 1, 3, api.ErrArg)
	j := made(t, d, 1, 2)
	checkNotBegun(t, j)
	checkRead(t, j, 1, nil, api.ErrDown)
	must(t, d.Crash(nil))
	checkTold(t, j, 1)
	checkNotBegun(t, j)
	checkBegin(t, j, 1, api.OK)
	appendAll(t, j, "a")
	checkTold(t, j, 1, "a")
}

// P17.1: a journal over blocks with records isn't begun, and tells them; each of two over the same blocks is begun by itself.
func TestNewOverRecords(t *testing.T) {
	d, j := begun(t, 6, 4)
	appendAll(t, j, "a", "b")
	other := made(t, d, 0, 6)
	checkNotBegun(t, other)
	checkTold(t, other, 4, "a", "b")
	checkLeft(t, j, 4)
	checkBegin(t, other, 5, api.OK)
	checkLeft(t, other, 6)
	checkLeft(t, j, 4)
	appendAll(t, j, "c")
	checkTold(t, other, 4, "a", "b", "c")
	appendAll(t, other, "new")
	checkTold(t, j, 5, "new")
	checkTold(t, j, 4)
	checkTold(t, made(t, d, 1, 5), 5)
}

// DOC.md's rule 1: of a journal that is nil, and of one that New did not make, all that answers an error answers ErrNil, whatever is handed in, and nothing is left.
func TestNoJournal(t *testing.T) {
	for _, j := range []*journal.Journal{nil, {}, new(journal.Journal)} {
		for range 2 {
			for _, gen := range []int{1, 0, -1, 2, math.MinInt, math.MaxInt} {
				checkRead(t, j, gen, nil, api.ErrNil)
				checkBegin(t, j, gen, api.ErrNil)
				checkLeft(t, j, 0)
			}
			for _, record := range [][]byte{nil, {}, []byte("a"), make([]byte, api.MaxRecord), make([]byte, api.MaxRecord+1)} {
				checkAppend(t, j, record, api.ErrNil)
				checkLeft(t, j, 0)
			}
		}
	}
}
