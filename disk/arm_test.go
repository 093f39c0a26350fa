package disk_test

import (
	"math"
	"testing"

	"regatta/api"
	"regatta/disk"
)

// P15.3: behind so many calls the next one goes down, be they writes or flushes, and be it a write or a flush.
func TestArmCounts(t *testing.T) {
	for n := range 9 {
		for mix := range 1 << (n + 1) {
			p := newPair(t, 2)
			p.arm(n)
			for k := range n {
				if mix>>k&1 == 1 {
					must(t, p.m.flush())
					must(t, p.d.Flush())
				} else {
					must(t, p.m.write(k%2, []byte{byte(k + 1)}))
					must(t, p.d.Write(k%2, []byte{byte(k + 1)}))
				}
			}
			p.check()
			if mix>>n&1 == 1 {
				p.flush()
			} else {
				p.write(1, []byte("last"))
			}
			if !p.d.Down() {
				t.Fatalf("armed with %d, %b: it isn't down", n, mix)
			}
		}
	}
}

// P15.3: a write that goes down is under way all the same, and has its fate.
func TestWriteGoesDown(t *testing.T) {
	for _, x := range []struct {
		fates []api.Fate
		want  string
	}{{nil, "old"}, {[]api.Fate{lost()}, "old"}, {[]api.Fate{kept()}, "newer"}, {[]api.Fate{torn(2)}, "ned"}} {
		d := made(t, 2)
		must(t, d.Write(0, []byte("old")))
		must(t, d.Flush())
		d.Arm(0)
		checkState(t, d, 2, false, nil)
		checkFault(t, d.Write(0, []byte("newer")), api.ErrDown)
		checkState(t, d, 2, true, []int{0})
		checkSafe(t, d, "old", "")
		must(t, d.Crash(x.fates))
		checkState(t, d, 2, false, nil)
		checkBlocks(t, d, x.want, "")
	}
}

// P15.3: a flush that goes down isn't done: what was under way still is.
func TestFlushGoesDown(t *testing.T) {
	d := made(t, 2)
	must(t, d.Write(0, []byte("a")))
	d.Arm(1)
	must(t, d.Write(1, []byte("b")))
	checkFault(t, d.Flush(), api.ErrDown)
	checkState(t, d, 2, true, []int{0, 1})
	checkSafe(t, d, "", "")
	must(t, d.Crash([]api.Fate{lost(), kept()}))
	checkBlocks(t, d, "", "b")
	d.Arm(0)
	checkFault(t, d.Flush(), api.ErrDown)
	checkState(t, d, 2, true, nil)
}

// P15.3: of a disk that is down nothing is done, as often as it is asked, until it falls.
func TestDown(t *testing.T) {
	d := made(t, 2)
	must(t, d.Write(0, []byte("safe")))
	must(t, d.Flush())
	must(t, d.Write(0, []byte("under")))
	d.Arm(0)
	checkFault(t, d.Write(1, []byte("last")), api.ErrDown)
	for _, n := range []int{0, 1, 2, -1, 100, math.MinInt, math.MaxInt} {
		checkFault(t, d.Write(0, []byte("more")), api.ErrDown)
		checkFault(t, d.Flush(), api.ErrDown)
		checkAnswer(t, "Read", d.Read, 0, nil, api.ErrDown)
		checkAnswer(t, "Read", d.Read, 1, nil, api.ErrDown)
		checkSafe(t, d, "safe", "")
		checkState(t, d, 2, true, []int{0, 1})
		d.Arm(n)
		checkState(t, d, 2, true, []int{0, 1})
	}
	must(t, d.Crash([]api.Fate{torn(1), torn(2)}))
	checkState(t, d, 2, false, nil)
	checkBlocks(t, d, "uafe", "la")
}

// P15.3: calls that are answered with an error, and calls that don't write, count as none, and don't go down.
func TestArmCountsOnlyWhatIsDone(t *testing.T) {
	others := func(d *disk.Disk) {
		checkFault(t, d.Write(2, []byte("x")), api.ErrBlock)
		checkFault(t, d.Write(-1, []byte("x")), api.ErrBlock)
		checkFault(t, d.Write(0, make([]byte, 129)), api.ErrBig)
		checkAnswer(t, "Read", d.Read, 1, filled(""), api.OK)
		checkAnswer(t, "Read", d.Read, 2, nil, api.ErrBlock)
		checkAnswer(t, "Safe", d.Safe, 1, filled(""), api.OK)
		checkAnswer(t, "Safe", d.Safe, 2, nil, api.ErrBlock)
		d.Blocks()
		d.Under()
		d.Down()
	}
	d := made(t, 2)
	d.Arm(2)
	others(d)
	must(t, d.Write(0, []byte("a")))
	others(d)
	must(t, d.Flush())
	others(d)
	checkState(t, d, 2, false, nil)
	checkFault(t, d.Write(0, []byte("b")), api.ErrDown)
	checkState(t, d, 2, true, []int{0})
}

// P15.3: armed anew, the last arming holds alone.
func TestArmAnew(t *testing.T) {
	for _, x := range [][2]int{{0, 1}, {1, 0}, {3, 1}, {1, 3}, {5, 5}, {-1, 2}, {math.MaxInt, 1}, {math.MinInt, 0}} {
		d := made(t, 1)
		d.Arm(x[0])
		if x[0] > 0 {
			must(t, d.Write(0, []byte("between")))
		}
		d.Arm(x[1])
		for range x[1] {
			must(t, d.Flush())
		}
		checkFault(t, d.Flush(), api.ErrDown)
	}
}

// P15.3: below 0 it isn't armed, nor is a new one; and so many calls that nobody makes them go on.
func TestNotArmed(t *testing.T) {
	calls := func(d *disk.Disk) {
		for k := range 300 {
			must(t, d.Write(k%2, []byte{byte(k)}))
			must(t, d.Flush())
		}
	}
	calls(made(t, 2))
	for _, n := range []int{-1, -2, -128, math.MinInt, math.MinInt + 1, math.MaxInt, 1 << 32} {
		d := made(t, 2)
		d.Arm(n)
		calls(d)
		d.Arm(0)
		d.Arm(n)
		calls(d)
		checkState(t, d, 2, false, nil)
	}
}
