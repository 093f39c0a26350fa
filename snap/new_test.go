package snap_test

import (
	"bytes"
	"math"
	"math/big"
	"testing"

	"regatta/api"
	"regatta/disk"
	"regatta/snap"
)

// checkRefused sees to it that there is no such snap.
func checkRefused(t *testing.T, d *disk.Disk, at, room int, fault api.Errno) {
	t.Helper()
	if s, e := snap.New(d, at, room); s != nil || e != fault {
		t.Fatalf("New(%d blocks, %d, %d): %v, %d; want %d", d.Blocks(), at, room, s, e, fault)
	}
}

// P16.1: rooms and places at their ends.
func TestNew(t *testing.T) {
	for _, x := range []struct {
		blocks, at, room int
		fault            api.Errno
	}{
		{4, 0, 1, api.OK},
		{4, 0, 0, api.ErrArg},
		{4, 0, -1, api.ErrArg},
		{4, 0, 2, api.ErrArg},
		{4, 1, 1, api.ErrArg},
		{4, -1, 1, api.ErrArg},
		{5, 1, 1, api.OK},
		{5, 2, 1, api.ErrArg},
		{5, 0, 2, api.ErrArg},
		{6, 0, 2, api.OK},
		{6, 2, 1, api.OK},
		{3, 0, 1, api.ErrArg},
		{1, 0, 1, api.ErrArg},
		{2, 0, 0, api.ErrArg},
		{4, 2, 0, api.ErrArg},
		{api.MaxBlocks, 0, 1, api.OK},
		{api.MaxBlocks, api.MaxBlocks - 4, 1, api.OK},
		{api.MaxBlocks, api.MaxBlocks - 3, 1, api.ErrArg},
		{api.MaxBlocks, api.MaxBlocks - 1, 1, api.ErrArg},
		{api.MaxBlocks, api.MaxBlocks, 1, api.ErrArg},
		{api.MaxBlocks, 0, 8191, api.OK},
		{api.MaxBlocks, 1, 8191, api.ErrArg},
		{api.MaxBlocks - 1, 0, 8191, api.ErrArg},
		{api.MaxBlocks, 0, 8192, api.ErrArg},
		{api.MaxBlocks, 0, api.MaxBlocks, api.ErrArg},
		{api.MaxBlocks, 0, api.MaxBlocks + 1, api.ErrArg},
		{api.MaxBlocks, 0, -api.MaxBlocks, api.ErrArg},
	} {
		d := madeDisk(t, x.blocks)
		if x.fault != api.OK {
			checkRefused(t, d, x.at, x.room, x.fault)
			continue
		}
		s := made(t, d, x.at, x.room)
		checkLoad(t, s, nil, 0, api.ErrNone)
		checkSave(t, s, []byte("one"), 1, api.OK)
		checkSave(t, s, []byte("two"), 2, api.OK)
		checkLoad(t, s, []byte("two"), 2, api.OK)
	}
}

// P16.1: all places and rooms about small disks: a snap, if each of its blocks is on the disk.
func TestNewOnSmallDisks(t *testing.T) {
	for blocks := 1; blocks <= 14; blocks++ {
		d := madeDisk(t, blocks)
		for at := -3; at <= blocks+2; at++ {
			for room := -3; room <= blocks+2; room++ {
				all := room >= 1 && at >= 0
				for i := at; i <= at+2*(1+room)-1; i++ {
					all = all && i >= 0 && i < blocks
				}
				if all {
					made(t, d, at, room)
				} else {
					checkRefused(t, d, at, room, api.ErrArg)
				}
			}
		}
	}
}

// P16.1: nothing overflows, at the ends of an int neither.
func TestNewAtTheEnds(t *testing.T) {
	var list []int
	for _, mid := range []int{0, 1 << 13, 1 << 14, 1 << 31, 1 << 32, 1 << 61, 1 << 62, -1 << 14, -1 << 32, -1 << 61, -1 << 62, math.MinInt, math.MaxInt} {
		for k := -4; k <= 4; k++ {
			list = append(list, mid+k)
		}
	}
	whole := func(n int) *big.Int { return big.NewInt(int64(n)) }
	for _, blocks := range []int{1, 4, 9, 8192, api.MaxBlocks} {
		d := madeDisk(t, blocks)
		for _, at := range list {
			for _, room := range list {
				end := whole(room)
				end.Add(end, whole(1))
				end.Mul(end, whole(2))
				end.Add(end, whole(at))
				if room >= 1 && room <= 1<<14 && at >= 0 && end.Cmp(whole(blocks)) <= 0 {
					made(t, d, at, room)
				} else {
					checkRefused(t, d, at, room, api.ErrArg)
				}
			}
		}
	}
}

// P16.1: of what is no disk there is no snap: that comes ahead of all other errors.
func TestNewOfNoDisk(t *testing.T) {
	for _, d := range []*disk.Disk{nil, {}, new(disk.Disk)} {
		for _, at := range []int{0, 1, -1, math.MinInt, math.MaxInt} {
			for _, room := range []int{1, 0, -1, -2, 2, api.MaxBlocks, api.MaxBlocks + 1, math.MinInt, math.MaxInt} {
				checkRefused(t, d, at, room, api.ErrNil)
			}
		}
	}
}

// P16.1: it writes nothing, right or wrong, and asks the disk for nothing that counts.
func TestNewWritesNothing(t *testing.T) {
	d := madeDisk(t, 9)
	lay(t, d, 0, textOf(shuffled(1), 9*128))
	must(t, d.Write(3, []byte("under way")))
	image := imageOf(d)
	d.Arm(2)
	made(t, d, 0, 1)
	made(t, d, 1, 3)
	checkRefused(t, d, 2, 3, api.ErrArg)
	if under := d.Under(); len(under) != 1 || under[0] != 3 {
		t.Fatalf("under way: %v", under)
	}
	if !bytes.Equal(imageOf(d), image) {
		t.Fatal("New changed a block")
	}
	checkArmed(t, d, 2)
}

// P16.1: a disk that is down is one.
func TestNewOnADiskThatIsDown(t *testing.T) {
	d := madeDisk(t, 4)
	d.Arm(0)
	d.Flush()
	checkRefused(t, d, 1, 1, api.ErrArg)
	s := made(t, d, 0, 1)
	checkLoad(t, s, nil, 0, api.ErrDown)
	must(t, d.Crash(nil))
	checkLoad(t, s, nil, 0, api.ErrNone)
	checkSave(t, s, []byte("a"), 1, api.OK)
}

// P16.1: it keeps nothing but these three: what is on the disk is found by each snap of the place, whoever wrote it.
func TestNewKeepsNothing(t *testing.T) {
	d := madeDisk(t, 7)
	a, b := made(t, d, 1, 2), made(t, d, 1, 2)
	checkSave(t, a, []byte("one"), 1, api.OK)
	checkLoad(t, b, []byte("one"), 1, api.OK)
	checkSave(t, b, []byte("two"), 2, api.OK)
	checkSave(t, b, []byte("three"), 3, api.OK)
	checkLoad(t, a, []byte("three"), 3, api.OK)
	checkSave(t, a, []byte("four"), 4, api.OK)
	checkLoad(t, made(t, d, 1, 2), []byte("four"), 4, api.OK)
	lay(t, d, 0, make([]byte, 7*128))
	checkLoad(t, a, nil, 0, api.ErrNone)
	checkSave(t, a, []byte("anew"), 1, api.OK)
	layText(t, d, 1, 98, "laid")
	checkLoad(t, b, []byte("laid"), 98, api.OK)
	checkSave(t, b, []byte("next"), 99, api.OK)
	checkLoad(t, a, []byte("next"), 99, api.OK)
}

// DOC.md's rule 1: of a snap that is nil, and of one that New did not make, Load and Save are ErrNil, whatever is handed in.
func TestNoSnap(t *testing.T) {
	for _, s := range []*snap.Snap{nil, {}, new(snap.Snap)} {
		for _, data := range [][]byte{nil, {}, []byte("a"), make([]byte, 129), make([]byte, 1<<21)} {
			checkLoad(t, s, nil, 0, api.ErrNil)
			checkSave(t, s, data, 0, api.ErrNil)
		}
	}
}
