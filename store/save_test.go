package store_test

import (
	"bytes"
	"testing"

	"regatta/api"
)

// P18.2: bases of no bytes, of one, of as many as a slot holds, and of one more: that one isn't kept, and the store isn't begun.
func TestSaveSizes(t *testing.T) {
	r := shuffled(10)
	for room := 1; room <= 3; room++ {
		for size := range room*128 + 3 {
			d, s := fresh(t, room, 2)
			base := textOf(r, size)
			if size > room*128 {
				checkSave(t, s, base, api.ErrRoom)
				checkNotBegun(t, s)
				checkImage(t, d, make([]byte, d.Blocks()*128))
				checkOpens(t, d, room, "")
				continue
			}
			checkSave(t, s, base, api.OK)
			checkState(t, s, true, 2)
			checkOpens(t, d, room, string(base))
			must(t, d.Crash(nil))
			checkOpens(t, d, room, string(base))
			appendAll(t, s, "r")
			checkOpens(t, d, room, string(base), "r")
		}
	}
}

// P18.2: Save more than once, with records in between: the base is the new one, the elder records are gone, and all blocks are left again.
func TestSaveAnew(t *testing.T) {
	r := shuffled(11)
	d, s := fresh(t, 2, 7)
	for range 300 {
		base := textOf(r, r.IntN(257))
		checkSave(t, s, base, api.OK)
		checkState(t, s, true, 7)
		checkOpens(t, d, 2, string(base))
		var records []string
		for left := 7; r.IntN(6) > 0; {
			record := textOf(r, r.IntN(209))
			if partsFor(len(record)) > left {
				break
			}
			appendAll(t, s, string(record))
			records = append(records, string(record))
			left -= partsFor(len(record))
			checkState(t, s, true, left)
			checkOpens(t, d, 2, string(base), records...)
		}
	}
}

// P18.2: Save with nothing in between, and of the same base: each one has a generation of its own.
func TestSaveOfTheSame(t *testing.T) {
	d, s := begun(t, 1, 2, "same")
	for n := 2; n < 300; n++ {
		checkSave(t, s, []byte("same"), api.OK)
		checkSave(t, s, []byte("same"), api.OK)
		n++
		appendAll(t, s, "r")
		if b, _ := d.Safe(4); !bytes.Equal(b, blocksFor(n, 1, []byte("r"))) {
			t.Fatalf("behind the Save %d: %x", n, b)
		}
		checkOpens(t, d, 1, "same", "r")
	}
}

// P18.2: layer 16's ErrRoom: nothing is written, and the store isn't begun, whether it was or not; the next Save begins it.
func TestSaveWithoutRoom(t *testing.T) {
	d, s := begun(t, 1, 3, "base")
	appendAll(t, s, "r")
	image := imageOf(d)
	d.Arm(2)
	for _, size := range []int{129, 130, 256, api.MaxBytes} {
		checkSave(t, s, make([]byte, size), api.ErrRoom)
		checkNotBegun(t, s)
		checkOpens(t, d, 1, "base", "r")
	}
	checkImage(t, d, image)
	checkArmed(t, d, 2)
	checkSave(t, s, make([]byte, 129), api.ErrRoom)
	checkSave(t, s, make([]byte, 128), api.ErrDown)
	checkNotBegun(t, s)
	must(t, d.Crash(nil))
	checkNotBegun(t, s)
	checkSave(t, s, make([]byte, 129), api.ErrRoom)
	checkSave(t, s, make([]byte, 128), api.OK)
	checkState(t, s, true, 3)
	checkOpens(t, d, 1, string(make([]byte, 128)))
}

// P18.2: layer 16's ErrBig, behind the greatest number that a text has: the store isn't begun, and stays so.
func TestSaveBehindTheGreatestNumber(t *testing.T) {
	d, _ := fresh(t, 1, 3)
	layText(t, d, 1, 1<<62-1, "one ahead")
	lay(t, d, 4, imageFor(1<<62-1, []byte("r")))
	s := checkOpens(t, d, 1, "one ahead", "r")
	checkSave(t, s, []byte("last"), api.OK)
	checkState(t, s, true, 3)
	appendAll(t, s, "a", "b")
	checkState(t, s, true, 1)
	checkOpens(t, d, 1, "last", "a", "b")
	image := imageOf(d)
	for range 2 {
		checkSave(t, s, make([]byte, 129), api.ErrRoom)
		checkSave(t, s, []byte("one more"), api.ErrBig)
		checkNotBegun(t, s)
		checkImage(t, d, image)
		checkSave(t, checkOpens(t, d, 1, "last", "a", "b"), nil, api.ErrBig)
	}
}

// P18.2: the disk's error, of a disk that went down elsewhere: the store isn't begun, behind the fall neither.
func TestSaveOnADiskThatIsDown(t *testing.T) {
	for _, wasBegun := range []bool{false, true} {
		d, s := begun(t, 1, 3, "base")
		appendAll(t, s, "r")
		if !wasBegun {
			s = checkOpens(t, d, 1, "base", "r")
		}
		d.Arm(0)
		d.Flush()
		checkSave(t, s, []byte("new"), api.ErrDown)
		checkNotBegun(t, s)
		must(t, d.Crash(nil))
		checkNotBegun(t, s)
		checkOpens(t, d, 1, "base", "r")
		checkSave(t, s, []byte("new"), api.OK)
		checkState(t, s, true, 3)
		checkOpens(t, d, 1, "new")
	}
}

// P18.2: a Save takes as many calls of the disk as its blocks, its head and two flushes: armed with one less it fails, armed with as many it is kept.
func TestSaveCalls(t *testing.T) {
	for _, size := range []int{0, 1, 128, 129, 256} {
		calls := (size+127)/128 + 3
		for armed := range calls + 2 {
			d, s := begun(t, 2, 3, "base")
			appendAll(t, s, "r")
			base := bytes.Repeat([]byte("n"), size)
			d.Arm(armed)
			if armed < calls {
				checkSave(t, s, base, api.ErrDown)
				checkNotBegun(t, s)
				continue
			}
			checkSave(t, s, base, api.OK)
			checkState(t, s, true, 3)
			checkArmed(t, d, armed-calls)
			must(t, d.Crash(nil))
			checkState(t, s, true, 3)
			checkOpens(t, d, 2, string(base))
		}
	}
}

// P18.2: several stores one after the other on one disk: each goes on behind what the one ahead of it kept.
func TestStoresOneAfterTheOther(t *testing.T) {
	d, s := fresh(t, 1, 5)
	base, records := "", []string(nil)
	for n := range 40 {
		s = checkOpens(t, d, 1, base, records...)
		if n%3 == 2 {
			continue
		}
		base, records = string(rune('a'+n%26)), nil
		checkSave(t, s, []byte(base), api.OK)
		checkOpens(t, d, 1, base)
		for k := range n % 5 {
			records = append(records, base+string(rune('0'+k)))
			appendAll(t, s, records[k])
			checkOpens(t, d, 1, base, records...)
		}
	}
}

// Two stores over one disk: each is begun by its own Save alone.
func TestEachIsBegunByItself(t *testing.T) {
	d, s := begun(t, 1, 5, "base")
	other := checkOpens(t, d, 1, "base")
	checkNotBegun(t, other)
	appendAll(t, s, "r")
	checkState(t, s, true, 4)
	checkNotBegun(t, other)
	checkSave(t, other, []byte("new"), api.OK)
	checkState(t, other, true, 5)
	checkState(t, s, true, 4)
	checkSave(t, s, make([]byte, 129), api.ErrRoom)
	checkNotBegun(t, s)
	appendAll(t, other, "a")
	checkState(t, other, true, 4)
	checkOpens(t, d, 1, "new", "a")
}
