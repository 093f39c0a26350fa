package disk_test

import (
	"math"
	"testing"

	"regatta/api"
	"regatta/disk"
)

// P15.1: numbers of blocks at both ends, and what a new disk is.
func TestNew(t *testing.T) {
	for _, n := range []int{1, 2, 3, 127, 128, 129, 255, 256, 16383, api.MaxBlocks} {
		d := made(t, n)
		checkState(t, d, n, false, nil)
		for _, i := range []int{0, n / 2, n - 1} {
			checkAnswer(t, "Read", d.Read, i, filled(""), api.OK)
			checkAnswer(t, "Safe", d.Safe, i, filled(""), api.OK)
		}
		checkAnswer(t, "Read", d.Read, n, nil, api.ErrBlock)
		checkAnswer(t, "Safe", d.Safe, n, nil, api.ErrBlock)
	}
}

// P15.1: numbers of blocks that no disk has.
func TestNewRefused(t *testing.T) {
	for _, n := range []int{0, -1, -2, -16384, api.MaxBlocks + 1, 1 << 16, 1 << 32, 1<<32 + 1, -1<<32 + 1, math.MinInt, math.MinInt + 1, math.MaxInt} {
		if d, e := disk.New(n); d != nil || e != api.ErrArg {
			t.Errorf("New(%d): %v, %d", n, d, e)
		}
	}
}

// P15.1: each number of blocks that a disk may have.
func TestNewOfEachNumber(t *testing.T) {
	for n := 1; n <= api.MaxBlocks; n++ {
		if d, e := disk.New(n); e != api.OK || d.Blocks() != n {
			t.Fatalf("New(%d): %d blocks, %d", n, d.Blocks(), e)
		}
	}
}

// DOC.md's rule 1: of a disk that is nil, and of one that New did not make, each call answers ErrNil or nothing, whatever it is given, and does nothing.
func TestNoDisk(t *testing.T) {
	for name, d := range map[string]*disk.Disk{"nil": nil, "plain": {}, "new": new(disk.Disk)} {
		for range 2 {
			for _, i := range []int{0, 1, -1, 5, math.MinInt, math.MaxInt} {
				d.Arm(i)
				if e := d.Write(i, []byte("a")); e != api.ErrNil {
					t.Errorf("%s: Write(%d): %d", name, i, e)
				}
				if e := d.Write(i, make([]byte, 129)); e != api.ErrNil {
					t.Errorf("%s: Write(%d) of too much: %d", name, i, e)
				}
				checkAnswer(t, name+": Read", d.Read, i, nil, api.ErrNil)
				checkAnswer(t, name+": Safe", d.Safe, i, nil, api.ErrNil)
			}
			if e := d.Flush(); e != api.ErrNil {
				t.Errorf("%s: Flush: %d", name, e)
			}
			for _, fates := range [][]api.Fate{nil, {}, {kept()}, {torn(3), lost()}} {
				if e := d.Crash(fates); e != api.ErrNil {
					t.Errorf("%s: Crash: %d", name, e)
				}
			}
			checkState(t, d, 0, false, nil)
		}
	}
}

// P15.1: disks are apart from one another.
func TestDisksApart(t *testing.T) {
	a, b := made(t, 2), made(t, 2)
	must(t, a.Write(0, []byte("a")))
	must(t, a.Flush())
	must(t, a.Write(1, []byte("under")))
	a.Arm(0)
	checkState(t, b, 2, false, nil)
	checkBlocks(t, b, "", "")
	must(t, b.Write(1, []byte("b")))
	must(t, b.Flush())
	checkFault(t, a.Flush(), api.ErrDown)
	checkState(t, a, 2, true, []int{1})
	checkState(t, b, 2, false, nil)
	checkBlocks(t, b, "", "b")
	must(t, b.Crash([]api.Fate{kept()}))
	checkState(t, a, 2, true, []int{1})
	must(t, a.Crash(nil))
	checkBlocks(t, a, "a", "")
	checkBlocks(t, b, "", "b")
	checkBlocks(t, made(t, 2), "", "")
}
