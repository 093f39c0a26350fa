package journal_test

import (
	"bytes"
	"math"
	"slices"
	"testing"

	"regatta/api"
	"regatta/disk"
	"regatta/journal"
)

// laid is a journal at a block, with blocks of other bytes ahead of it and behind it, over which an image is laid from its beginning on.
func laid(t *testing.T, at, size int, image []byte) (*disk.Disk, *journal.Journal) {
	t.Helper()
	d := madeDisk(t, at+size+3)
	lay(t, d, 0, textOf(shuffled(2), d.Blocks()*128))
	lay(t, d, at, append(bytes.Clone(image), make([]byte, size*128-len(image))...))
	return d, made(t, d, at, size)
}

// P17.2: of a new disk no generation has a record; those below 1 are none.
func TestReadNothing(t *testing.T) {
	for _, size := range []int{1, 2, 7, api.MaxBlocks} {
		_, j := fresh(t, size)
		for _, gen := range []int{1, 2, 255, 256, 1 << 32, math.MaxInt - 1, math.MaxInt} {
			checkTold(t, j, gen)
		}
		for _, gen := range []int{0, -1, -2, -1 << 32, math.MinInt + 1, math.MinInt} {
			checkRead(t, j, gen, nil, api.ErrArg)
		}
	}
}

// P17.2: records of several lengths, one behind the other, in blocks that were laid by hand.
func TestReadRecords(t *testing.T) {
	r := shuffled(3)
	sizes := []int{0, 1, 2, 103, 104, 105, 207, 208, 209, 300, 312, 313, 1000}
	for _, gen := range []int{1, 2, 255, 256, 65535, 1 << 32, 0x0102030405060708, math.MaxInt} {
		for range 30 {
			var list [][]byte
			for range r.IntN(12) {
				list = append(list, textOf(r, sizes[r.IntN(len(sizes))]))
			}
			image := imageFor(gen, list...)
			at := r.IntN(3)
			_, j := laid(t, at, len(image)/128+1+r.IntN(3), image)
			checkRead(t, j, gen, list, api.OK)
			checkRead(t, j, gen, list, api.OK)
			for _, other := range []int{gen ^ 1, gen ^ 256, gen ^ 1<<32, gen ^ 1<<62, gen - 1} {
				if other >= 1 {
					checkTold(t, j, other)
				}
			}
		}
	}
}

// P17.2: the longest record, and one of a byte more, which can't be.
func TestReadLongest(t *testing.T) {
	for _, size := range []int{api.MaxRecord - 1, api.MaxRecord} {
		record := textOf(shuffled(4), size)
		image := imageFor(3, []byte("ahead"), record, []byte("behind"))
		_, j := laid(t, 1, 2523, image)
		checkRead(t, j, 3, [][]byte{[]byte("ahead"), record, []byte("behind")}, api.OK)
	}
	image := imageFor(3, []byte("ahead"), make([]byte, api.MaxRecord+1), []byte("behind"))
	if len(image) != 2523*128 {
		t.Fatalf("%d blocks", len(image)/128)
	}
	_, j := laid(t, 1, 2523, image)
	checkTold(t, j, 3, "ahead")
}

// P17.2: as many records as a journal of all blocks of the greatest disk has room for.
func TestReadMany(t *testing.T) {
	list := make([][]byte, api.MaxBlocks)
	var image []byte
	for i := range list {
		list[i] = []byte{byte(i), byte(i >> 8)}
		image = append(image, blocksFor(5, i+1, list[i])...)
	}
	d, j := fresh(t, api.MaxBlocks)
	lay(t, d, 0, image)
	checkRead(t, j, 5, list, api.OK)
	half := made(t, d, 0, 9000)
	checkRead(t, half, 5, list[:9000], api.OK)
	behind := made(t, d, 1, 9000)
	checkTold(t, behind, 5)
}

// P17.2: a bit that is turned in any number of any part: the record isn't there any more, and none behind it. (But a record of one part is there with another length, if the part has room for it.)
func TestReadTurnedNumbers(t *testing.T) {
	r := shuffled(5)
	sizes := []int{7, 250, 105, 0, 104, 1000, 1}
	var list [][]byte
	var image []byte
	var owner []int // of each block
	for i, size := range sizes {
		list = append(list, textOf(r, size))
		image = append(image, blocksFor(0x0203, i+1, list[i])...)
		for len(owner) < len(image)/128 {
			owner = append(owner, i)
		}
	}
	for at, i := range owner {
		for bit := 104 * 8; bit < 128*8; bit++ {
			spoilt := bytes.Clone(image)
			spoilt[at*128+bit/8] ^= 1 << (bit % 8)
			want := slices.Clone(list[:i])
			if size := sizes[i] ^ 1<<(bit-104*8); bit < 105*8 && sizes[i] <= 104 && size <= 104 {
				want = slices.Clone(list)
				want[i] = image[at*128 : at*128+size]
			}
			_, j := laid(t, 1, len(owner), spoilt)
			checkRead(t, j, 0x0203, want, api.OK)
		}
	}
}

// P17.2: the bytes of a record are told as they are; those behind its end aren't looked at.
func TestReadTurnedBytes(t *testing.T) {
	r := shuffled(6)
	for _, size := range []int{0, 1, 50, 103, 104, 105, 208, 260} {
		for at := range partsFor(size) * 128 {
			if at%128 >= 104 {
				continue
			}
			record := textOf(r, size)
			image := imageFor(9, []byte("ahead"), record, []byte("behind"))
			image[128+at] ^= byte(1 + r.IntN(255))
			want := bytes.Clone(record)
			if place := at/128*104 + at%128; place < size {
				want[place] = image[128+at]
			}
			_, j := laid(t, 0, 9, image)
			checkRead(t, j, 9, [][]byte{[]byte("ahead"), want, []byte("behind")}, api.OK)
		}
	}
}

// P17.2: numbers of bytes and of parts that go together, and such as don't, said by as many parts as they say.
func TestReadBytesAndParts(t *testing.T) {
	for _, size := range []uint32{0, 1, 2, 103, 104, 105, 106, 207, 208, 209, 312, 313, 26520, 26521, 262080, 262081, api.MaxRecord - 1, api.MaxRecord, api.MaxRecord + 1, 262184, 262185, 1 << 24, 1<<24 + 5, 1 << 31, 1<<31 + 1, math.MaxUint32 - 103, math.MaxUint32 - 1, math.MaxUint32} {
		together := uint16(min(partsFor(int(size)), 65535))
		for _, parts := range []uint16{0, 1, 2, 3, 4, together - 2, together - 1, together, together + 1, together + 2, together + 256, 2521, 2522, 32768, 65535} {
			c := crafted{data: bytes.Repeat([]byte("x"), 104), size: size, parts: parts, record: 1, gen: 1}
			var image []byte
			for range min(max(parts, 1), 2600) {
				image = append(image, c.block()...)
				c.part++
			}
			image = append(image, blocksFor(1, 2, []byte("behind"))...)
			d := madeDisk(t, len(image)/128)
			lay(t, d, 0, image)
			j := made(t, d, 0, d.Blocks())
			if parts != uint16(partsFor(int(size))) || size > api.MaxRecord {
				checkTold(t, j, 1)
				continue
			}
			checkRead(t, j, 1, [][]byte{bytes.Repeat([]byte("x"), int(size)), []byte("behind")}, api.OK)
		}
	}
}

// P17.2: parts that don't rise one by one: doubled, left out, the other way round, of another record or generation, beginning behind 0.
func TestReadParts(t *testing.T) {
	record := textOf(shuffled(7), 400)
	ahead, behind := blocksFor(7, 1, []byte("ahead")), blocksFor(7, 3, []byte("behind"))
	p := craftedFor(7, 2, record)
	of := func(number, gen uint64, k int) crafted {
		c := p[k]
		c.record, c.gen = number, gen
		return c
	}
	for _, list := range [][]crafted{
		{}, {p[0]}, {p[0], p[1]}, {p[0], p[1], p[2]},
		{p[0], p[0], p[1], p[2], p[3]}, {p[0], p[1], p[1], p[2], p[3]}, {p[0], p[1], p[2], p[2]}, {p[0], p[2], p[3]},
		{p[3], p[2], p[1], p[0]}, {p[1], p[0], p[2], p[3]}, {p[0], p[2], p[1], p[3]}, {p[0], p[1], p[3], p[2]},
		{p[1], p[2], p[3]}, {p[1], p[2], p[3], p[0]}, {p[3]}, {p[0], p[0], p[0], p[0]},
		{p[0], of(3, 7, 1), p[2], p[3]}, {p[0], p[1], p[2], of(1, 7, 3)}, {of(3, 7, 0), p[1], p[2], p[3]}, {of(1, 7, 0), of(1, 7, 1), of(1, 7, 2), of(1, 7, 3)},
		{p[0], of(2, 6, 1), p[2], p[3]}, {p[0], p[1], p[2], of(2, 8, 3)}, {of(2, 6, 0), p[1], p[2], p[3]}, {of(2, 8, 0), of(2, 8, 1), of(2, 8, 2), of(2, 8, 3)},
	} {
		image := bytes.Clone(ahead)
		for _, c := range list {
			image = append(image, c.block()...)
		}
		_, j := laid(t, 2, 9, append(image, behind...))
		checkTold(t, j, 7, "ahead")
	}
	image := bytes.Clone(ahead)
	for _, c := range p {
		image = append(image, c.block()...)
	}
	_, j := laid(t, 2, 9, append(image, behind...))
	checkRead(t, j, 7, [][]byte{[]byte("ahead"), record, []byte("behind")}, api.OK)
}

// P17.2: records whose numbers don't rise one by one from 1 on.
func TestReadNumbers(t *testing.T) {
	block := func(number uint64) []byte {
		return crafted{data: []byte("r"), size: 1, parts: 1, record: number, gen: 7}.block()
	}
	for _, x := range []struct {
		numbers []uint64
		there   int
	}{
		{[]uint64{1, 2, 3}, 3}, {[]uint64{0, 1, 2}, 0}, {[]uint64{2, 3, 4}, 0}, {[]uint64{1, 1, 2}, 1}, {[]uint64{1, 2, 2}, 2}, {[]uint64{1, 3, 2}, 1}, {[]uint64{1, 2, 4}, 2}, {[]uint64{3, 2, 1}, 0},
		{[]uint64{1, 2, 3 + 1<<32}, 2}, {[]uint64{1, 2 + 1<<16}, 1}, {[]uint64{1 + 1<<8, 2}, 0}, {[]uint64{1 + 1<<63}, 0}, {[]uint64{math.MaxUint64}, 0}, {[]uint64{1, math.MaxUint64, 3}, 1},
	} {
		var image []byte
		var want []string
		for i, n := range x.numbers {
			image = append(image, block(n)...)
			if i < x.there {
				want = append(want, "r")
			}
		}
		_, j := laid(t, 1, 5, image)
		checkTold(t, j, 7, want...)
	}
}

// P17.2: a generation above all that an int can be is none's.
func TestReadGreatGenerations(t *testing.T) {
	for _, gen := range []uint64{1 << 63, 1<<63 + 1, 1<<63 + 7, math.MaxUint64, math.MaxUint64 - 6} {
		_, j := laid(t, 0, 2, crafted{data: []byte("r"), size: 1, parts: 1, record: 1, gen: gen}.block())
		for _, asked := range []int{1, 7, int(gen & math.MaxInt64), math.MaxInt, math.MaxInt - 6} {
			if asked >= 1 {
				checkTold(t, j, asked)
			}
		}
		for _, asked := range []int{int(gen), 0, math.MinInt} {
			checkRead(t, j, asked, nil, api.ErrArg)
		}
	}
}

// P17.2: a record whose parts go on behind the journal's end isn't there, though the disk goes on; those ahead are.
func TestReadBehindTheEnd(t *testing.T) {
	record := textOf(shuffled(8), 350)
	image := imageFor(2, []byte("a"), textOf(shuffled(9), 200), record, []byte("b"))
	d := madeDisk(t, 9)
	lay(t, d, 1, image)
	for size, there := range []int{0, 1, 1, 2, 2, 2, 2, 3, 4} {
		if size > 0 {
			want := [][]byte{[]byte("a"), textOf(shuffled(9), 200), record, []byte("b")}[:there]
			checkRead(t, made(t, d, 1, size), 2, want, api.OK)
		}
	}
	last := madeDisk(t, 7) // the disk ends in the midst of the record
	lay(t, last, 1, image[:6*128])
	checkRead(t, made(t, last, 1, 6), 2, [][]byte{[]byte("a"), textOf(shuffled(9), 200)}, api.OK)
}

// P17.2: records of an elder generation behind those of a newer one are none of either's.
func TestReadElderBehind(t *testing.T) {
	elder := imageFor(4, []byte("a"), []byte("b"), []byte("c"), []byte("d"))
	newer := imageFor(5, []byte("x"), []byte("y"))
	_, j := laid(t, 1, 6, append(newer, elder[2*128:]...))
	checkTold(t, j, 5, "x", "y")
	checkTold(t, j, 4)
	_, j = laid(t, 1, 6, append(elder[:2*128:2*128], imageFor(5, []byte("x"), []byte("y"), []byte("z"))[2*128:]...))
	checkTold(t, j, 4, "a", "b")
	checkTold(t, j, 5)
}

// P17.2: it tells what was written last, under way or not.
func TestReadUnderWay(t *testing.T) {
	d, j := fresh(t, 3)
	must(t, d.Write(0, blocksFor(6, 1, []byte("under way"))))
	checkTold(t, j, 6, "under way")
	lay(t, d, 0, blocksFor(6, 1, []byte("safe")))
	must(t, d.Write(1, blocksFor(6, 2, []byte("more"))))
	checkTold(t, j, 6, "safe", "more")
	must(t, d.Crash(nil))
	checkTold(t, j, 6, "safe")
}

// P17.2: of a disk that is down nothing is told; what is no generation comes ahead of that.
func TestReadDown(t *testing.T) {
	d, j := begun(t, 4, 3)
	appendAll(t, j, "a", "b")
	d.Arm(0)
	checkTold(t, j, 3, "a", "b")
	d.Flush()
	for _, gen := range []int{1, 3, math.MaxInt} {
		checkRead(t, j, gen, nil, api.ErrDown)
	}
	for _, gen := range []int{0, -1, math.MinInt} {
		checkRead(t, j, gen, nil, api.ErrArg)
	}
	must(t, d.Crash(nil))
	checkTold(t, j, 3, "a", "b")
}

// P17.2: it writes nothing, asks the disk for nothing that counts, and leaves the journal as it is, begun or not.
func TestReadChangesNothing(t *testing.T) {
	d, j := fresh(t, 5)
	lay(t, d, 0, imageFor(3, []byte("a"), make([]byte, 150), []byte("b")))
	must(t, d.Write(4, []byte("under way")))
	image := imageOf(d)
	d.Arm(3)
	for _, gen := range []int{1, 3, 0, -1} {
		j.Read(gen)
	}
	checkNotBegun(t, j)
	checkBegin(t, j, 8, api.OK)
	for _, gen := range []int{1, 3, 8, 9, 0, -1} {
		j.Read(gen)
	}
	checkLeft(t, j, 5)
	checkImage(t, d, image)
	if !slices.Equal(d.Under(), []int{4}) {
		t.Fatalf("under way: %v", d.Under())
	}
	appendAll(t, j, "first")
	j.Read(3)
	j.Read(9)
	checkLeft(t, j, 4)
	d.Arm(2)
	appendAll(t, j, "second")
	checkTold(t, j, 8, "first", "second")
	checkArmed(t, d, 0)
}
