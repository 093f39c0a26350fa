package store_test

import (
	"strings"
	"testing"

	"regatta/api"
)

// P18.3: records of each number of bytes about those that fill a block: nothing, one, 104, and one more.
func TestAppendSizes(t *testing.T) {
	r := shuffled(12)
	for size := range 320 {
		d, s := begun(t, 1, 6, "b")
		record := textOf(r, size)
		checkAppend(t, s, record, api.OK)
		checkState(t, s, true, 6-partsFor(size))
		checkOpens(t, d, 1, "b", string(record))
		must(t, d.Crash(nil))
		checkOpens(t, d, 1, "b", string(record))
		checkAppend(t, s, nil, api.OK)
		checkAppend(t, s, []byte{}, api.OK)
		checkOpens(t, d, 1, "b", string(record), "", "")
	}
}

// P18.3: as many bytes as fill the journal, and one more: that is ErrFull, and changes nothing.
func TestAppendUntilFull(t *testing.T) {
	for behind := 1; behind <= 6; behind++ {
		for first := range behind {
			d, s := begun(t, 1, behind, "b")
			var records []string
			for range first {
				records = append(records, "r")
				appendAll(t, s, "r")
			}
			left := behind - first
			for _, size := range []int{left*104 + 1, left*104 + 104, left * 1000, api.MaxRecord} {
				checkAppend(t, s, make([]byte, size), api.ErrFull)
				checkState(t, s, true, left)
				checkOpens(t, d, 1, "b", records...)
			}
			records = append(records, string(make([]byte, left*104)))
			checkAppend(t, s, make([]byte, left*104), api.OK)
			for _, size := range []int{0, 1, 104, 105, api.MaxRecord} {
				checkState(t, s, true, 0)
				checkAppend(t, s, make([]byte, size), api.ErrFull)
			}
			checkOpens(t, d, 1, "b", records...)
			checkSave(t, s, []byte("c"), api.OK)
			checkState(t, s, true, behind)
			checkOpens(t, d, 1, "c")
		}
	}
}

// P18.3: records of MaxRecord bytes, and of one more: the disk has 2521 blocks for each.
func TestAppendOfManyBytes(t *testing.T) {
	d, s := begun(t, 1, 5043, "b")
	most := textOf(shuffled(13), api.MaxRecord)
	checkAppend(t, s, most, api.OK)
	checkState(t, s, true, 2522)
	checkAppend(t, s, append(most, 1), api.ErrBig)
	checkState(t, s, true, 2522)
	checkAppend(t, s, most, api.OK)
	checkState(t, s, true, 1)
	checkAppend(t, s, most, api.ErrFull)
	checkAppend(t, s, append(most, 1), api.ErrBig)
	appendAll(t, s, "r")
	checkState(t, s, true, 0)
	checkOpens(t, d, 1, "b", string(most), string(most), "r")
}

// P18.3: which error comes first: ErrState, then ErrBig, then ErrFull, then the disk's.
func TestAppendErrorsInOrder(t *testing.T) {
	d, s := fresh(t, 1, 2)
	big, full := make([]byte, api.MaxRecord+1), make([]byte, 209)
	down := func() {
		d.Arm(0)
		d.Flush()
	}
	checkAppend(t, s, big, api.ErrState)
	checkAppend(t, s, full, api.ErrState)
	down()
	checkNotBegun(t, s)
	must(t, d.Crash(nil))
	checkSave(t, s, []byte("b"), api.OK)
	checkAppend(t, s, big, api.ErrBig)
	checkAppend(t, s, full, api.ErrFull)
	down()
	checkAppend(t, s, big, api.ErrBig)
	checkAppend(t, s, full, api.ErrFull)
	checkState(t, s, true, 2)
	checkAppend(t, s, full[1:], api.ErrDown)
	checkAppend(t, s, big, api.ErrState)
	checkAppend(t, s, full, api.ErrState)
	checkNotBegun(t, s)
}

// P18.3: ErrBig and ErrFull change nothing: no block, no arming, nor what is left, nor whether it is begun; the next record goes where it would have gone.
func TestRefusedRecordsChangeNothing(t *testing.T) {
	d, s := begun(t, 1, 4, "b")
	appendAll(t, s, "one")
	image := imageOf(d)
	d.Arm(2)
	for range 3 {
		checkAppend(t, s, make([]byte, api.MaxRecord+1), api.ErrBig)
		checkState(t, s, true, 3)
		checkAppend(t, s, make([]byte, 313), api.ErrFull)
		checkState(t, s, true, 3)
	}
	checkImage(t, d, image)
	if len(d.Under()) != 0 {
		t.Fatalf("under way: %v", d.Under())
	}
	appendAll(t, s, "two")
	checkArmed(t, d, 0)
	must(t, d.Crash(nil))
	checkState(t, s, true, 2)
	checkOpens(t, d, 1, "b", "one", "two")
	checkImage(t, d, append(image[:5*128:5*128], append(blocksFor(1, 2, []byte("two")), make([]byte, 256)...)...))
}

// P18.3: behind an error of the disk's it isn't begun: nothing is taken until the next Save, behind the fall neither.
func TestAppendBehindAnError(t *testing.T) {
	d, s := begun(t, 1, 6, "b")
	appendAll(t, s, "one")
	d.Arm(1)
	checkAppend(t, s, []byte("two"), api.ErrDown)
	checkNotBegun(t, s)
	must(t, d.Crash(nil))
	checkNotBegun(t, s)
	checkOpens(t, d, 1, "b", "one")
	checkNotBegun(t, s)
	checkSave(t, s, []byte("c"), api.OK)
	checkState(t, s, true, 6)
	appendAll(t, s, "three")
	checkOpens(t, d, 1, "c", "three")
}

// P18.3: a disk that went down elsewhere: the store is begun until it finds that out by an Append.
func TestAppendOnADiskThatIsDown(t *testing.T) {
	d, s := begun(t, 1, 6, "b")
	appendAll(t, s, "one")
	d.Arm(0)
	d.Flush()
	checkState(t, s, true, 5)
	checkAppend(t, s, []byte("two"), api.ErrDown)
	checkNotBegun(t, s)
	must(t, d.Crash([]api.Fate{kept()}))
	checkNotBegun(t, s)
	checkOpens(t, d, 1, "b", "one")
}

// P18.3, P18.4: a disk that falls with nothing under way: all is there, and a store that was begun goes on.
func TestFallWithNothingUnderWay(t *testing.T) {
	d, s := begun(t, 1, 6, "b")
	for k, text := range []string{"one", "", strings.Repeat("three", 40)} {
		must(t, d.Crash([]api.Fate{kept(), torn(3)}))
		checkState(t, s, true, 6-k)
		appendAll(t, s, text)
	}
	must(t, d.Crash(nil))
	checkState(t, s, true, 2)
	other := checkOpens(t, d, 1, "b", "one", "", strings.Repeat("three", 40))
	must(t, d.Crash(nil))
	checkNotBegun(t, other)
}

// P18.3: an Append takes as many calls of the disk as it has blocks, and a flush.
func TestAppendCalls(t *testing.T) {
	for _, size := range []int{0, 104, 105, 300} {
		calls := partsFor(size) + 1
		for armed := range calls + 2 {
			d, s := begun(t, 1, 5, "b")
			d.Arm(armed)
			if armed < calls {
				checkAppend(t, s, make([]byte, size), api.ErrDown)
				checkNotBegun(t, s)
				continue
			}
			checkAppend(t, s, make([]byte, size), api.OK)
			checkState(t, s, true, 5-partsFor(size))
			checkArmed(t, d, armed-calls)
		}
	}
}

// The chapter's example: a new disk of 9 blocks, room 1.
func TestExample(t *testing.T) {
	d := madeDisk(t, 9)
	s := checkOpen(t, d, 1, nil, nil, api.OK)
	checkAppend(t, s, []byte("r"), api.ErrState)
	checkSave(t, s, []byte("b"), api.OK)
	checkState(t, s, true, 5)
	checkAppend(t, s, []byte("r"), api.OK)
	checkState(t, s, true, 4)
	checkOpens(t, d, 1, "b", "r")
	image := append(make([]byte, 256), headFor(1, []byte("b"))...)
	image = append(append(image, 'b'), make([]byte, 127)...)
	image = append(append(image, blocksFor(1, 1, []byte("r"))...), make([]byte, 4*128)...)
	checkImage(t, d, image)
}
