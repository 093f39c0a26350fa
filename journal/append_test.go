package journal_test

import (
	"bytes"
	"encoding/hex"
	"math"
	"slices"
	"strings"
	"testing"

	"regatta/api"
)

// The chapter's example.
func TestExample(t *testing.T) {
	d, j := begun(t, 3, 1)
	appendAll(t, j, "ab")
	want := "6162" + strings.Repeat("00", 102) + "02000000" + "0100" + "0000" + "0100000000000000" + "0100000000000000"
	if b, _ := d.Safe(0); hex.EncodeToString(b) != want {
		t.Fatalf("block 0: %x", b)
	}
	if !bytes.Equal(imageOf(d)[128:], make([]byte, 256)) {
		t.Fatal("blocks 1 and 2 were written")
	}
	checkLeft(t, j, 2)
	checkAppend(t, j, make([]byte, 105), api.OK)
	checkLeft(t, j, 0)
	checkAppend(t, j, nil, api.ErrFull)
	checkRead(t, j, 1, [][]byte{[]byte("ab"), make([]byte, 105)}, api.OK)
}

// P17.4: the numbers of blocks byte by byte, reckoned outside of the program: of the first part of a record, and of its last.
func TestBlockBytes(t *testing.T) {
	for _, x := range []struct {
		gen, ahead, size int
		first, last      string
	}{
		{1, 0, 0, "00000000" + "0100" + "0000" + "0100000000000000" + "0100000000000000", ""},
		{2, 1, 1, "01000000" + "0100" + "0000" + "0200000000000000" + "0200000000000000", ""},
		{255, 2, 104, "68000000" + "0100" + "0000" + "0300000000000000" + "ff00000000000000", ""},
		{256, 254, 105, "69000000" + "0200" + "0000" + "ff00000000000000" + "0001000000000000", "69000000" + "0200" + "0100" + "ff00000000000000" + "0001000000000000"},
		{0x0102030405060708, 255, 208, "d0000000" + "0200" + "0000" + "0001000000000000" + "0807060504030201", "d0000000" + "0200" + "0100" + "0001000000000000" + "0807060504030201"},
		{0x1122334455, 772, 26624, "00680000" + "0001" + "0000" + "0503000000000000" + "5544332211000000", "00680000" + "0001" + "ff00" + "0503000000000000" + "5544332211000000"},
		{1 << 62, 3, 26625, "01680000" + "0101" + "0000" + "0400000000000000" + "0000000000000040", "01680000" + "0101" + "0001" + "0400000000000000" + "0000000000000040"},
		{math.MaxInt, 9, 65537, "01000100" + "7702" + "0000" + "0a00000000000000" + "ffffffffffffff7f", "01000100" + "7702" + "7602" + "0a00000000000000" + "ffffffffffffff7f"},
		{7, 13000, api.MaxRecord, "00000400" + "d909" + "0000" + "c932000000000000" + "0700000000000000", "00000400" + "d909" + "d809" + "c932000000000000" + "0700000000000000"},
	} {
		parts := max(1, (x.size+103)/104)
		d, j := begun(t, x.ahead+parts+1, x.gen)
		for range x.ahead {
			checkAppend(t, j, nil, api.OK)
		}
		record := textOf(shuffled(11), x.size)
		checkAppend(t, j, record, api.OK)
		b, _ := d.Safe(x.ahead)
		want := append(bytes.Clone(record[:min(x.size, 104)]), make([]byte, 104-min(x.size, 104))...)
		if !bytes.Equal(b[:104], want) || hex.EncodeToString(b[104:]) != x.first {
			t.Errorf("%d bytes, the first part: %x", x.size, b)
		}
		if parts == 1 {
			continue
		}
		b, _ = d.Safe(x.ahead + parts - 1)
		want = append(bytes.Clone(record[(parts-1)*104:]), make([]byte, parts*104-x.size)...)
		if !bytes.Equal(b[:104], want) || hex.EncodeToString(b[104:]) != x.last {
			t.Errorf("%d bytes, the last part: %x", x.size, b)
		}
	}
}

// P17.4: records of each length: what is written, over blocks of other bytes, and what stays as it was.
func TestAppendOfEachLength(t *testing.T) {
	r := shuffled(12)
	const at, size, blocks = 2, 6, 10
	for length := range 4*104 + 1 {
		d := madeDisk(t, blocks)
		j := made(t, d, at, size)
		image := textOf(r, blocks*128)
		lay(t, d, 0, image)
		checkBegin(t, j, 300, api.OK)
		checkImage(t, d, image)
		list := [][]byte{textOf(r, r.IntN(105)), textOf(r, length)}
		place := at * 128
		for i, record := range list {
			checkAppend(t, j, record, api.OK)
			place += copy(image[place:], blocksFor(300, i+1, record))
			checkImage(t, d, image)
			checkLeft(t, j, size+at-place/128)
			checkRead(t, j, 300, list[:i+1], api.OK)
		}
		must(t, d.Crash(nil))
		checkImage(t, d, image)
	}
}

// P17.4: a record without a byte, as no list and as an empty one, is one; so is a record of noughts.
func TestAppendOfNothing(t *testing.T) {
	d, j := begun(t, 6, 1)
	for k, record := range [][]byte{nil, {}, make([]byte, 0, 50), {0}, make([]byte, 104), nil} {
		checkAppend(t, j, record, api.OK)
		checkLeft(t, j, 5-k)
	}
	want := [][]byte{{}, {}, {}, {0}, make([]byte, 104), {}}
	checkRead(t, j, 1, want, api.OK)
	checkAppend(t, j, nil, api.ErrFull)
	must(t, d.Crash(nil))
	checkRead(t, j, 1, want, api.OK)
}

// P17.4: the blocks that records take, at the ends of one: 104 bytes have room in it.
func TestLeft(t *testing.T) {
	_, j := begun(t, 20, 1)
	left := 20
	for _, x := range []struct{ size, parts int }{{0, 1}, {1, 1}, {103, 1}, {104, 1}, {105, 2}, {207, 2}, {208, 2}, {209, 3}, {312, 3}, {313, 4}} {
		checkAppend(t, j, make([]byte, x.size), api.OK)
		left -= x.parts
		checkLeft(t, j, left)
		checkLeft(t, j, left)
	}
	if left != 0 {
		t.Fatal(left)
	}
	checkAppend(t, j, nil, api.ErrFull)
	checkLeft(t, j, 0)
	checkBegin(t, j, 2, api.OK)
	checkLeft(t, j, 20)
}

// P17.4: as many bytes as fill what is left have room, one more hasn't: then nothing is written, and the journal goes on as it was.
func TestAppendFull(t *testing.T) {
	for size := 1; size <= 12; size++ {
		for used := range size {
			d, j := begun(t, size, 1)
			var want [][]byte
			for range used {
				want = append(want, []byte("r"))
				appendAll(t, j, "r")
			}
			image := imageOf(d)
			d.Arm(size - used + 2)
			full := textOf(shuffled(13), (size-used)*104)
			for _, more := range []int{1, 2, 103, 104, 105, 1000} {
				checkAppend(t, j, make([]byte, len(full)+more), api.ErrFull)
				checkLeft(t, j, size-used)
			}
			checkImage(t, d, image)
			if len(d.Under()) > 0 {
				t.Fatalf("under way: %v", d.Under())
			}
			checkRead(t, j, 1, want, api.OK)
			checkAppend(t, j, full, api.OK)
			checkLeft(t, j, 0)
			for _, length := range []int{0, 1, 104, 105, api.MaxRecord} {
				checkAppend(t, j, make([]byte, length), api.ErrFull)
			}
			checkLeft(t, j, 0)
			checkRead(t, j, 1, append(want, full), api.OK)
			checkArmed(t, d, 1)
		}
	}
}

// P17.4: the longest record has room in 2521 blocks, and not in 2520; one of a byte more is too big, wherever.
func TestAppendLongest(t *testing.T) {
	r := shuffled(14)
	record := textOf(r, api.MaxRecord+1)
	for _, size := range []int{2520, 2521, 2522, 5042, 5043} {
		d, j := begun(t, size, 3)
		d.Arm(size + 2)
		for _, length := range []int{api.MaxRecord + 1, api.MaxRecord + 2, 2 * api.MaxRecord} {
			checkAppend(t, j, make([]byte, length), api.ErrBig)
		}
		checkLeft(t, j, size)
		var want [][]byte
		left := size
		for ; left >= 2521; left -= 2521 {
			checkAppend(t, j, record[:api.MaxRecord], api.OK)
			want = append(want, record[:api.MaxRecord])
			checkLeft(t, j, left-2521)
		}
		checkAppend(t, j, record[:api.MaxRecord], api.ErrFull)
		checkAppend(t, j, record, api.ErrBig)
		checkLeft(t, j, left)
		checkRead(t, j, 3, want, api.OK)
	}
}

// P17.4: which error comes first: that it isn't begun, then the record's length, then the room, then the disk; all but the disk's leave it as it was.
func TestOrderOfErrors(t *testing.T) {
	d, j := fresh(t, 3)
	check := func(big, long, short api.Errno) {
		t.Helper()
		checkAppend(t, j, make([]byte, api.MaxRecord+1), big)
		checkAppend(t, j, make([]byte, 3*104+1), long)
		checkAppend(t, j, []byte("short"), short)
	}
	check(api.ErrState, api.ErrState, api.ErrState)
	checkBegin(t, j, 1, api.OK)
	check(api.ErrBig, api.ErrFull, api.OK)
	appendAll(t, j, "b", "c")
	check(api.ErrBig, api.ErrFull, api.ErrFull)
	d.Arm(0)
	check(api.ErrBig, api.ErrFull, api.ErrFull)
	if d.Down() {
		t.Fatal("what was refused was asked of the disk")
	}
	d.Flush()
	check(api.ErrBig, api.ErrFull, api.ErrFull)
	checkBegin(t, j, 2, api.OK)
	checkLeft(t, j, 3)
	check(api.ErrBig, api.ErrFull, api.ErrDown)
	check(api.ErrState, api.ErrState, api.ErrState)
	must(t, d.Crash(nil))
	check(api.ErrState, api.ErrState, api.ErrState)
	checkTold(t, j, 1, "short", "b", "c")
}

// P17.4: what an Append does, call by call: its blocks, rising; a flush; and no other call.
func TestAppendCallByCall(t *testing.T) {
	for _, ahead := range []int{0, 1, 3} {
		for _, size := range []int{0, 1, 104, 105, 208, 209, 416, 417, 600} {
			record := textOf(shuffled(15), size)
			parts := partsFor(size)
			for armed := range parts + 3 {
				d, j := begun(t, 12, 2)
				for range ahead {
					appendAll(t, j, "ahead")
				}
				was := imageOf(d)
				d.Arm(armed)
				if armed > parts {
					checkAppend(t, j, record, api.OK)
					checkArmed(t, d, armed-parts-1)
					continue
				}
				checkAppend(t, j, record, api.ErrDown)
				checkNotBegun(t, j)
				var under []int
				for i := range min(armed+1, parts) {
					under = append(under, ahead+i)
				}
				if !slices.Equal(d.Under(), under) {
					t.Fatalf("%d bytes behind %d records, armed with %d: under way %v, want %v", size, ahead, armed, d.Under(), under)
				}
				must(t, d.Crash(slices.Repeat([]api.Fate{kept()}, len(under))))
				copy(was[ahead*128:], blocksFor(2, ahead+1, record)[:len(under)*128])
				checkImage(t, d, was)
			}
		}
	}
}

// P17.4: an Append flushes what was under way ahead of it too.
func TestAppendFlushesAll(t *testing.T) {
	d := madeDisk(t, 3)
	j := made(t, d, 0, 2)
	must(t, d.Write(2, []byte("other")))
	checkBegin(t, j, 1, api.OK)
	appendAll(t, j, "a")
	must(t, d.Crash(nil))
	if b, _ := d.Safe(2); !bytes.HasPrefix(b, []byte("other\x00")) {
		t.Fatalf("%q", b)
	}
	checkTold(t, j, 1, "a")
}

// P17.4: a fall that is in no Append doesn't end what was begun: all that was answered OK is there, and the next record goes behind it.
func TestAppendBehindAFallOfOthers(t *testing.T) {
	d := madeDisk(t, 5)
	j := made(t, d, 0, 4)
	checkBegin(t, j, 1, api.OK)
	for k := range 4 {
		must(t, d.Write(4, []byte("other")))
		d.Arm(0)
		d.Flush()
		checkLeft(t, j, 4-k)
		must(t, d.Crash([]api.Fate{torn(3)}))
		checkLeft(t, j, 4-k)
		appendAll(t, j, "r")
		checkTold(t, j, 1, slices.Repeat([]string{"r"}, k+1)...)
	}
}

// Two journals beside one another on one disk, each with its generations and records; what is about them stays as it was.
func TestTwoJournals(t *testing.T) {
	r := shuffled(16)
	d := madeDisk(t, 16)
	lay(t, d, 0, bytes.Repeat([]byte{0xee}, 16*128))
	a, b := made(t, d, 1, 5), made(t, d, 6, 9)
	checkBegin(t, a, 1, api.OK)
	checkNotBegun(t, b)
	appendAll(t, a, "a")
	checkTold(t, b, 1)
	checkBegin(t, b, 1, api.OK)
	appendAll(t, b, "b")
	lists, gens := [2][][]byte{bytesOf("a"), bytesOf("b")}, [2]int{1, 1}
	for range 600 {
		which := r.IntN(2)
		j := a
		if which == 1 {
			j = b
		}
		record := textOf(r, r.IntN(300))
		if partsFor(len(record)) > j.Left() {
			checkAppend(t, j, record, api.ErrFull)
			gens[which] += 1 + r.IntN(300)
			checkBegin(t, j, gens[which], api.OK)
			lists[which] = nil
		}
		checkAppend(t, j, record, api.OK)
		lists[which] = append(lists[which], record)
		checkRead(t, a, gens[0], lists[0], api.OK)
		checkRead(t, b, gens[1], lists[1], api.OK)
		checkLeft(t, a, 5-len(imageFor(1, lists[0]...))/128)
		checkLeft(t, b, 9-len(imageFor(1, lists[1]...))/128)
	}
	for _, i := range []int{0, 15} {
		if x, _ := d.Read(i); !bytes.Equal(x, bytes.Repeat([]byte{0xee}, 128)) {
			t.Fatalf("block %d: %q", i, x)
		}
	}
}

// Two journals beside one another of one generation: what stands in the one is never read as going on in the other.
func TestTwoJournalsEndToEnd(t *testing.T) {
	d := madeDisk(t, 4)
	whole, a, b := made(t, d, 0, 4), made(t, d, 0, 2), made(t, d, 2, 2)
	checkBegin(t, whole, 1, api.OK)
	appendAll(t, whole, "one", strings.Repeat("t", 200), "three")
	checkTold(t, a, 1, "one")
	checkTold(t, b, 1)
	checkBegin(t, b, 1, api.OK)
	appendAll(t, b, "b")
	checkTold(t, a, 1, "one")
	checkTold(t, whole, 1, "one")
	checkTold(t, b, 1, "b")
}

// Two journals beside one another, of which one falls in an Append: the other one stays as it was.
func TestTwoJournalsFall(t *testing.T) {
	for armed := range 4 {
		for _, fate := range []api.Fate{lost(), kept(), torn(50), torn(106), torn(121)} {
			d := madeDisk(t, 8)
			a, b := made(t, d, 0, 4), made(t, d, 4, 4)
			checkBegin(t, a, 2, api.OK)
			checkBegin(t, b, 2, api.OK)
			appendAll(t, a, "a")
			appendAll(t, b, "b")
			d.Arm(armed)
			checkAppend(t, b, make([]byte, 300), api.ErrDown)
			checkRead(t, a, 2, nil, api.ErrDown)
			checkLeft(t, a, 3)
			checkLeft(t, b, 0)
			must(t, d.Crash([]api.Fate{fate, fate}))
			checkTold(t, a, 2, "a")
			appendAll(t, a, "more")
			checkTold(t, a, 2, "a", "more")
			checkAppend(t, b, nil, api.ErrState)
		}
	}
}
