package disk

import (
	"testing"

	"regatta/api"
)

// The chapter's Ways: a block that is noughts again is kept no more, nor is what was under way behind a flush or a fall.
func TestNoughtsAreNotKept(t *testing.T) {
	d, _ := New(3)
	checkKept(t, d, 0)
	write := func(i int, s string) {
		if e := d.Write(i, []byte(s)); e != api.OK {
			t.Fatal(e)
		}
	}
	write(0, "")
	write(1, "b")
	write(2, "c")
	d.Flush()
	checkKept(t, d, 2)
	write(1, "")
	write(0, "a")
	write(0, "\x00")
	d.Flush()
	checkKept(t, d, 1)
	write(2, "")
	d.Crash([]api.Fate{{Kind: api.FTorn, Bytes: 1}})
	checkKept(t, d, 0)
	write(0, "a")
	d.Crash(nil)
	checkKept(t, d, 0)
	d.Read(1)
	d.Safe(1)
	checkKept(t, d, 0)
}

func checkKept(t *testing.T, d *Disk, want int) {
	t.Helper()
	if len(d.safe) != want || d.under != nil {
		t.Fatalf("%d blocks are kept, want %d; under way %v", len(d.safe), want, d.Under())
	}
}
