package store_test

import (
	"bytes"
	"math"
	"slices"
	"testing"

	"regatta/api"
	"regatta/disk"
	"regatta/store"
)

// checkRefused sees to it that there is no such store, and nothing else told.
func checkRefused(t *testing.T, d *disk.Disk, room int, fault api.Errno) {
	t.Helper()
	s, base, records, e := store.Open(d, room)
	if s != nil || len(base) != 0 || len(records) != 0 || e != fault {
		t.Fatalf("Open(%d blocks, %d): %v, %q, %q, %d; want %d", d.Blocks(), room, s, base, records, e, fault)
	}
}

// P18.1: rooms at their ends, and disks that have one block behind the snap, several, and none.
func TestOpenRooms(t *testing.T) {
	for _, x := range []struct {
		blocks, room int
		fault        api.Errno
	}{
		{5, 1, api.OK},
		{4, 1, api.ErrArg},
		{3, 1, api.ErrArg},
		{1, 1, api.ErrArg},
		{9, 1, api.OK},
		{9, 2, api.OK},
		{9, 3, api.OK},
		{9, 4, api.ErrArg},
		{10, 4, api.ErrArg},
		{11, 4, api.OK},
		{9, 0, api.ErrArg},
		{9, -1, api.ErrArg},
		{9, -2, api.ErrArg},
		{9, -5, api.ErrArg},
		{api.MaxBlocks, 1, api.OK},
		{api.MaxBlocks, 8190, api.OK},
		{api.MaxBlocks - 1, 8190, api.OK},
		{api.MaxBlocks - 2, 8190, api.ErrArg},
		{api.MaxBlocks, 8191, api.ErrArg},
		{api.MaxBlocks, 8192, api.ErrArg},
		{api.MaxBlocks, api.MaxBlocks - 1, api.ErrArg},
		{api.MaxBlocks, api.MaxBlocks, api.ErrArg},
		{api.MaxBlocks, api.MaxBlocks + 1, api.ErrArg},
		{api.MaxBlocks, -api.MaxBlocks, api.ErrArg},
	} {
		d := madeDisk(t, x.blocks)
		if x.fault != api.OK {
			checkRefused(t, d, x.room, x.fault)
			continue
		}
		s := checkOpen(t, d, x.room, nil, nil, api.OK)
		checkSave(t, s, []byte("base"), api.OK)
		checkState(t, s, true, x.blocks-2-2*x.room)
		appendAll(t, s, "record")
		checkState(t, s, true, x.blocks-3-2*x.room)
		checkOpens(t, d, x.room, "base", "record")
	}
}

// P18.1: all rooms about small disks: there is a store, if there are blocks for two slots and one more.
func TestOpenOnSmallDisks(t *testing.T) {
	for blocks := 1; blocks <= 14; blocks++ {
		d := madeDisk(t, blocks)
		for room := -4; room <= blocks+3; room++ {
			if room >= 1 && 1+room+1+room+1 <= blocks {
				checkOpen(t, d, room, nil, nil, api.OK)
			} else {
				checkRefused(t, d, room, api.ErrArg)
			}
		}
	}
}

// P18.1: nothing overflows: rooms about all powers of two, and at the ends of an int.
func TestOpenAtTheEnds(t *testing.T) {
	for _, blocks := range []int{1, 4, 5, 9, 8192, api.MaxBlocks} {
		d := madeDisk(t, blocks)
		for bit := range 64 {
			for k := -3; k <= 3; k++ {
				for _, room := range []int{1<<bit + k, -1<<bit + k, math.MaxInt - 1<<bit + k, math.MinInt + 1<<bit + k} {
					if room >= 1 && room <= api.MaxBlocks && 2*room+3 <= blocks {
						checkOpen(t, d, room, nil, nil, api.OK)
					} else {
						checkRefused(t, d, room, api.ErrArg)
					}
				}
			}
		}
	}
}

// P18.1: of what is no disk there is no store: that comes ahead of all other errors.
func TestOpenOfNoDisk(t *testing.T) {
	for _, d := range []*disk.Disk{nil, {}, new(disk.Disk)} {
		for _, room := range []int{1, 0, -1, 2, api.MaxBlocks, api.MaxBlocks + 1, math.MinInt, math.MaxInt} {
			checkRefused(t, d, room, api.ErrNil)
		}
	}
}

// P18.1: a disk that is down has no store, but what is wrong with the room is told ahead of that; behind its fall it has one.
func TestOpenOfADiskThatIsDown(t *testing.T) {
	d, s := begun(t, 1, 5, "b")
	appendAll(t, s, "r")
	d.Arm(0)
	d.Flush()
	checkRefused(t, d, 1, api.ErrDown)
	checkRefused(t, d, 3, api.ErrDown)
	for _, room := range []int{4, 0, -1, api.MaxBlocks, api.MaxBlocks + 1, math.MinInt, math.MaxInt} {
		checkRefused(t, d, room, api.ErrArg)
	}
	if !d.Down() {
		t.Fatal("it is up")
	}
	must(t, d.Crash(nil))
	checkOpens(t, d, 1, "b", "r")
}

// P18.1: Open writes nothing, right or wrong, and asks the disk for nothing that counts.
func TestOpenWritesNothing(t *testing.T) {
	d, s := begun(t, 1, 5, "base")
	appendAll(t, s, "one", "two")
	must(t, d.Write(5, []byte("under way")))
	image := imageOf(d)
	d.Arm(3)
	checkOpens(t, d, 1, "base", "one")
	checkRefused(t, d, 4, api.ErrArg)
	checkRefused(t, d, 0, api.ErrArg)
	if !slices.Equal(d.Under(), []int{5}) {
		t.Fatalf("under way: %v", d.Under())
	}
	checkImage(t, d, image)
	must(t, d.Crash(nil))
	checkOpens(t, d, 1, "base", "one", "two")
	d.Arm(3)
	checkOpens(t, d, 1, "base", "one", "two")
	checkArmed(t, d, 3)
}

// P18.1: a new disk has no base and no records; records without a base aren't told.
func TestOpenOfANewDisk(t *testing.T) {
	d, s := fresh(t, 1, 5)
	checkNotBegun(t, s)
	checkOpens(t, d, 1, "")
	for gen := range 4 {
		lay(t, d, 4, imageFor(gen, []byte("a"), []byte("b")))
		checkOpens(t, d, 1, "")
	}
}

// P18.1: a base alone; one with a record behind it; one with several, of which some have several blocks, or no bytes.
func TestOpenOfABaseAndRecords(t *testing.T) {
	d, s := begun(t, 2, 12, "base")
	records := []string{"one", "", string(bytes.Repeat([]byte("long"), 60)), string(make([]byte, 104)), "", "last"}
	for n := range records {
		checkOpens(t, d, 2, "base", records[:n]...)
		appendAll(t, s, records[n])
	}
	checkOpens(t, d, 2, "base", records...)
	checkState(t, s, true, 12-8)
}

// P18.1: a base of no bytes is one: the records behind it are told.
func TestOpenOfAnEmptyBase(t *testing.T) {
	for _, base := range [][]byte{nil, {}} {
		d, s := fresh(t, 1, 3)
		checkSave(t, s, base, api.OK)
		checkOpens(t, d, 1, "")
		appendAll(t, s, "r")
		checkOpens(t, d, 1, "", "r")
	}
}

// P18.1: the generation is the number of the snap's text, whatever it is, up to its greatest; records of an elder or newer one aren't told, nor those behind a record of another one.
func TestOpenGenerations(t *testing.T) {
	for _, n := range []int{1, 2, 3, 255, 256, 257, 1 << 32, 1<<62 - 1, 1 << 62} {
		d, _ := fresh(t, 2, 6)
		layText(t, d, 2, uint64(n), "text")
		for _, gen := range []int{n, n - 1, n + 1, n + 256, n ^ 1<<40, 1<<63 - 1} {
			lay(t, d, 6, imageFor(gen, []byte("one"), []byte("two")))
			if gen == n {
				checkOpens(t, d, 2, "text", "one", "two")
			} else {
				checkOpens(t, d, 2, "text")
			}
			lay(t, d, 6, imageFor(n, []byte("new")))
			if gen == n {
				checkOpens(t, d, 2, "text", "new", "two")
			} else {
				checkOpens(t, d, 2, "text", "new")
			}
		}
	}
}

// P18.1: of two texts the one with the greater number is the base, and its records are told; those of the elder one are when it is gone.
func TestOpenOfTwoTexts(t *testing.T) {
	d, _ := fresh(t, 1, 6)
	layText(t, d, 1, 7, "elder")
	layText(t, d, 1, 8, "newer")
	lay(t, d, 4, imageFor(8, []byte("8")))
	checkOpens(t, d, 1, "newer", "8")
	lay(t, d, 4, imageFor(7, []byte("7"), []byte("7 too")))
	checkOpens(t, d, 1, "newer")
	layText(t, d, 1, 6, "eldest")
	checkOpens(t, d, 1, "elder", "7", "7 too")
	lay(t, d, 2, make([]byte, 128))
	checkOpens(t, d, 1, "eldest")
	lay(t, d, 0, make([]byte, 128))
	checkOpens(t, d, 1, "")
}

// P18.1: a slot of any bytes is no text; the other one is told, if it is whole.
func TestOpenOverSlotsOfAnyBytes(t *testing.T) {
	r := shuffled(1)
	for range 200 {
		d, s := fresh(t, 1, 4)
		lay(t, d, 0, textOf(r, 512))
		lay(t, d, 4, imageFor(1, []byte("r")))
		checkOpens(t, d, 1, "")
		layText(t, d, 1, 1, "text")
		checkOpens(t, d, 1, "text", "r")
		checkSave(t, s, []byte("over it"), api.OK)
		checkOpens(t, d, 1, "over it")
		appendAll(t, s, "new")
		checkOpens(t, d, 1, "over it", "new")
	}
}

// P18.1: the snap lies at the block 0, the journal at the first block behind its slots, up to the disk's last one.
func TestWhereItLies(t *testing.T) {
	for room := 1; room <= 4; room++ {
		d, s := begun(t, room, 3, "first")
		appendAll(t, s, "a", "b", "c")
		image := make([]byte, (1+room)*128)
		image = append(image, headFor(1, []byte("first"))...)
		image = append(image, append([]byte("first"), make([]byte, room*128-5)...)...)
		image = append(image, imageFor(1, bytesOf("a", "b", "c")...)...)
		checkImage(t, d, image)
		checkSave(t, s, []byte("second"), api.OK)
		appendAll(t, s, "d")
		copy(image, headFor(2, []byte("second")))
		copy(image[128:], "second")
		copy(image[(2+2*room)*128:], imageFor(2, []byte("d")))
		checkImage(t, d, image)
	}
}

// A room that is another than the one a disk was written with: what its blocks then say.
func TestOpenOfAnotherRoom(t *testing.T) {
	d, s := begun(t, 1, 9, "first")
	checkSave(t, s, []byte("second"), api.OK)
	appendAll(t, s, "r")
	checkOpens(t, d, 2, "second")
	checkOpens(t, d, 1, "second", "r")
	lay(t, d, 6, imageFor(2, []byte("other")))
	checkOpens(t, d, 2, "second", "other")
	checkOpens(t, d, 1, "second", "r")
}

// DOC.md's rule 1: of a store that is nil, and of one that Open did not make, all that answers an error answers ErrNil, whatever is handed in; it isn't begun, and nothing is left.
func TestNoStore(t *testing.T) {
	for _, s := range []*store.Store{nil, {}, new(store.Store)} {
		for range 2 {
			checkState(t, s, false, 0)
			for _, b := range [][]byte{nil, {}, []byte("a"), make([]byte, 129), make([]byte, api.MaxRecord), make([]byte, api.MaxRecord+1)} {
				checkSave(t, s, b, api.ErrNil)
				checkState(t, s, false, 0)
				checkAppend(t, s, b, api.ErrNil)
				checkState(t, s, false, 0)
			}
		}
	}
}
