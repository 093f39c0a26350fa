package disk_test

import (
	"bytes"
	"math"
	"testing"

	"regatta/api"
	"regatta/disk"
)

// withThree is a disk of four blocks: 0 to 2 are safe, and each is written anew, under way.
func withThree(t *testing.T) *disk.Disk {
	t.Helper()
	d := made(t, 4)
	for i, s := range []string{"aaa", "bbb", "ccc"} {
		must(t, d.Write(i, []byte(s)))
	}
	must(t, d.Flush())
	for i, s := range []string{"AAAA", "BBBB", "CCCC"} {
		must(t, d.Write(i, []byte(s)))
	}
	checkState(t, d, 4, false, []int{0, 1, 2})
	return d
}

// P15.4: the first write has the first fate, and so on; no fate, fewer and more than there are writes.
func TestFatesInOrder(t *testing.T) {
	for _, x := range []struct {
		fates         []api.Fate
		at0, at1, at2 string
	}{
		{nil, "aaa", "bbb", "ccc"},
		{[]api.Fate{}, "aaa", "bbb", "ccc"},
		{[]api.Fate{kept()}, "AAAA", "bbb", "ccc"},
		{[]api.Fate{lost(), kept()}, "aaa", "BBBB", "ccc"},
		{[]api.Fate{lost(), lost(), kept()}, "aaa", "bbb", "CCCC"},
		{[]api.Fate{kept(), kept(), kept()}, "AAAA", "BBBB", "CCCC"},
		{[]api.Fate{torn(1), kept(), torn(2)}, "Aaa", "BBBB", "CCc"},
		{[]api.Fate{torn(1), torn(3)}, "Aaa", "BBB", "ccc"},
		{[]api.Fate{kept(), lost(), torn(4), kept(), torn(9), lost()}, "AAAA", "bbb", "CCCC"},
		{[]api.Fate{lost(), lost(), lost(), kept(), kept()}, "aaa", "bbb", "ccc"},
	} {
		d := withThree(t)
		must(t, d.Crash(x.fates))
		checkState(t, d, 4, false, nil)
		checkBlocks(t, d, x.at0, x.at1, x.at2, "")
		must(t, d.Flush())
		must(t, d.Crash([]api.Fate{kept(), kept(), kept()}))
		checkBlocks(t, d, x.at0, x.at1, x.at2, "")
	}
}

// P15.4: a write of any other kind is lost, whatever Bytes says; Bytes says nothing of one that is kept or lost.
func TestOtherKinds(t *testing.T) {
	for _, f := range append(oddFates(), api.Fate{Kind: api.FLost, Bytes: 128}, api.Fate{Kind: api.FLost, Bytes: math.MaxInt}) {
		d := withThree(t)
		must(t, d.Crash([]api.Fate{f, kept(), f}))
		checkBlocks(t, d, "aaa", "BBBB", "ccc", "")
	}
	for _, n := range []int{math.MinInt, -1, 0, 1, 2, 127, 128, math.MaxInt} {
		d := withThree(t)
		must(t, d.Crash([]api.Fate{{Kind: api.FKept, Bytes: n}}))
		checkBlocks(t, d, "AAAA", "bbb", "ccc", "")
	}
}

// P15.4: writes torn behind each number of bytes, below 0 and beyond a block too, over what was safe and over noughts.
func TestTorn(t *testing.T) {
	r := shuffled(1)
	list := []int{math.MinInt, -1 << 32, -128, -2, -1, 129, 200, 256, 1 << 32, 1<<32 + 1, math.MaxInt}
	for n := range 129 {
		list = append(list, n)
	}
	for _, n := range list {
		for _, ahead := range [][]byte{nil, textOf(r, 128), textOf(r, 60)} {
			for _, text := range [][]byte{textOf(r, 128), textOf(r, 50), nil} {
				d := made(t, 1)
				must(t, d.Write(0, ahead))
				must(t, d.Flush())
				must(t, d.Write(0, text))
				must(t, d.Crash([]api.Fate{torn(n)}))
				reached := min(max(n, 0), 128)
				want := append(filled(string(text))[:reached], filled(string(ahead))[reached:]...)
				checkBlocks(t, d, string(want))
			}
		}
	}
}

// P15.4: two writes of one block, one behind the other: the second one falls on what the first one left.
func TestTwoOfOneBlock(t *testing.T) {
	for _, x := range []struct {
		first, second api.Fate
		want          string
	}{
		{lost(), lost(), "old"},
		{kept(), lost(), "first"},
		{lost(), kept(), "2nd"},
		{kept(), kept(), "2nd"},
		{torn(2), lost(), "fid"},
		{lost(), torn(2), "2nd"},
		{lost(), torn(1), "2ld"},
		{torn(2), torn(1), "2id"},
		{torn(1), torn(2), "2nd"},
		{kept(), torn(1), "2irst"},
		{kept(), torn(4), "2nd\x00t"},
		{torn(4), torn(2), "2nrs"},
		{torn(4), kept(), "2nd"},
	} {
		d := made(t, 2)
		must(t, d.Write(0, []byte("old")))
		must(t, d.Flush())
		must(t, d.Write(0, []byte("first")))
		must(t, d.Write(1, []byte("other")))
		must(t, d.Write(0, []byte("2nd")))
		must(t, d.Crash([]api.Fate{x.first, kept(), x.second}))
		checkBlocks(t, d, x.want, "other")
	}
}

// P15.4: a disk that is down is up behind a fall, and one that is armed isn't any more; and one with nothing under way stays as it is.
func TestCrashOfOthers(t *testing.T) {
	d := withThree(t)
	d.Arm(0)
	checkFault(t, d.Flush(), api.ErrDown)
	must(t, d.Crash([]api.Fate{kept(), lost(), torn(2)}))
	checkState(t, d, 4, false, nil)
	checkBlocks(t, d, "AAAA", "bbb", "CCc", "")
	for range 2 {
		for _, n := range []int{0, 1, 5, -1} {
			d.Arm(n)
			must(t, d.Crash(nil))
			for range 10 {
				must(t, d.Flush())
				must(t, d.Write(3, nil))
			}
			must(t, d.Flush())
		}
		must(t, d.Crash([]api.Fate{kept(), torn(9)}))
		checkState(t, d, 4, false, nil)
		checkBlocks(t, d, "AAAA", "bbb", "CCc", "")
	}
	d.Arm(0)
	checkFault(t, d.Write(3, []byte("d")), api.ErrDown)
	d.Arm(3)
	must(t, d.Crash([]api.Fate{kept()}))
	for range 10 {
		must(t, d.Flush())
	}
	checkBlocks(t, d, "AAAA", "bbb", "CCc", "d")
}

// The chapter's example.
func TestExample(t *testing.T) {
	d := made(t, 2)
	must(t, d.Write(0, []byte("ab")))
	must(t, d.Flush())
	must(t, d.Write(0, []byte("xyz")))
	must(t, d.Crash([]api.Fate{torn(1)}))
	checkBlocks(t, d, "xb", "")
}

// P15.5: what a flush was answered OK for is there behind any falls, until it is written again: each fate of each of a few writes of other blocks, with the disk going down or not.
func TestFlushedIsSafe(t *testing.T) {
	fates := append(oddFates()[:2], lost(), kept(), torn(-1), torn(0), torn(64), torn(128), torn(500))
	for _, first := range fates {
		for _, second := range fates {
			d := made(t, 3)
			must(t, d.Write(1, []byte("flushed")))
			must(t, d.Flush())
			for arm := -1; arm < 4; arm++ {
				d.Arm(arm)
				d.Write(0, []byte("zero"))
				d.Write(2, bytes.Repeat([]byte("2"), 128))
				checkSafe(t, d, "", "flushed")
				must(t, d.Crash([]api.Fate{first, second}))
				checkAnswer(t, "Read", d.Read, 1, filled("flushed"), api.OK)
				checkAnswer(t, "Safe", d.Safe, 1, filled("flushed"), api.OK)
				must(t, d.Write(0, nil))
				must(t, d.Flush())
			}
			must(t, d.Write(1, []byte("again")))
			must(t, d.Crash([]api.Fate{lost()}))
			checkAnswer(t, "Safe", d.Safe, 1, filled("flushed"), api.OK)
		}
	}
}

// P15.5: any falls, with each block as the last flush left it, or as a write behind that flush would.
func TestFlushedIsSafeAtRandom(t *testing.T) {
	r := shuffled(2)
	d := made(t, 4)
	flushed := [4][]byte{filled(""), filled(""), filled(""), filled("")}
	for range 20000 {
		written := [4]bool{}
		texts := [4][]byte{}
		d.Arm(r.IntN(9) - 2)
		for range r.IntN(6) {
			i := r.IntN(4)
			text := textOf(r, r.IntN(129))
			if d.Write(i, text) == api.OK {
				texts[i] = filled(string(text))
			}
			written[i] = true
		}
		if r.IntN(2) == 0 && d.Flush() == api.OK {
			for i := range texts {
				if texts[i] != nil {
					flushed[i] = texts[i]
				}
			}
			written = [4]bool{}
		}
		must(t, d.Crash(anyFates(r)))
		for i := range flushed {
			b, e := d.Safe(i)
			if e != api.OK || !written[i] && !bytes.Equal(b, flushed[i]) {
				t.Fatalf("block %d: %q, %d, flushed was %q", i, b, e, flushed[i])
			}
			flushed[i] = b
		}
	}
}
