package journal_test

import (
	"bytes"
	"math"
	"math/rand/v2"
	"testing"

	"regatta/api"
	"regatta/disk"
	"regatta/journal"
)

// anyGen is a generation, now and then one that is none.
func anyGen(r *rand.Rand) int {
	switch r.IntN(8) {
	case 0:
		return []int{0, -1, math.MinInt, math.MaxInt, 256, 257, 1 << 32, int(r.Uint64())}[r.IntN(8)]
	case 1:
		return 256 + r.IntN(3)
	}
	return 1 + r.IntN(3)
}

// anyLength is how many bytes a record has, now and then too many.
func anyLength(r *rand.Rand) int {
	switch r.IntN(12) {
	case 0:
		return 0
	case 1:
		return 104 * r.IntN(8)
	case 2:
		return 104*r.IntN(8) + 1
	case 3:
		return []int{api.MaxRecord, api.MaxRecord + 1, 16384}[r.IntN(3)]
	}
	return r.IntN(330)
}

// anyBlock is a block of a record, right, with another number in it, or with a bit turned.
func anyBlock(r *rand.Rand) []byte {
	list := craftedFor(1+r.IntN(3), 1+r.IntN(4), textOf(r, r.IntN(330)))
	c := list[r.IntN(len(list))]
	switch r.IntN(8) {
	case 0:
		c.size = []uint32{0, 104, 105, 208, 209, api.MaxRecord, api.MaxRecord + 1, 1 << 31, math.MaxUint32, r.Uint32()}[r.IntN(10)]
	case 1:
		c.parts = []uint16{0, 1, 2, 3, 2521, math.MaxUint16}[r.IntN(6)]
	case 2:
		c.part = []uint16{0, 1, 2, 3, 2521, math.MaxUint16}[r.IntN(6)]
	case 3:
		c.record = []uint64{0, 1, 2, 3, 257, 1 << 62, 1 << 63, math.MaxUint64, r.Uint64()}[r.IntN(9)]
	case 4:
		c.gen = []uint64{0, 1, 2, 3, 257, 1 << 62, 1 << 63, math.MaxUint64, r.Uint64()}[r.IntN(9)]
	}
	b := c.block()
	if r.IntN(4) == 0 {
		b[r.IntN(len(b))] ^= 1 << r.IntN(8)
	}
	return b
}

// befall lets something befall both disks of a pair.
func befall(p pair, r *rand.Rand) {
	p.t.Helper()
	i := r.IntN(p.d.Blocks())
	switch r.IntN(6) {
	case 0:
		text := textOf(r, r.IntN(129))
		p.both(func(d *disk.Disk) { d.Write(i, text) })
	case 1:
		b := anyBlock(r)
		p.both(func(d *disk.Disk) { d.Write(i, b) })
	case 2:
		p.both(func(d *disk.Disk) { d.Flush() })
	case 3:
		n := r.IntN(9) - 1
		p.both(func(d *disk.Disk) { d.Arm(n) })
	default:
		fates := anyFates(r)
		p.both(func(d *disk.Disk) { d.Crash(fates) })
	}
}

// P17.1 to P17.5: any order of calls, over blocks of any bytes, held against the model behind each call: whatever is on the disk, none panics.
func TestAnyCalls(t *testing.T) {
	r := shuffled(40)
	for range 1500 {
		size, at := 1+r.IntN(8), r.IntN(3)
		p := newPair(t, at+size+r.IntN(3), at, size)
		if r.IntN(4) == 0 {
			junk := textOf(r, p.d.Blocks()*128)
			p.both(func(d *disk.Disk) { lay(t, d, 0, junk) })
		}
		for range 1 + r.IntN(50) {
			switch r.IntN(8) {
			case 0, 1, 2:
				p.append(textOf(r, anyLength(r)))
			case 3, 4:
				p.read(anyGen(r))
			case 5:
				p.begin(anyGen(r))
			default:
				befall(p, r)
			}
		}
	}
}

// P17.2: blocks of any records' parts, in any order.
func TestAnyBlocks(t *testing.T) {
	r := shuffled(41)
	for range 20000 {
		p := newPair(t, 6, 0, 1+r.IntN(6))
		number := 1
		for at := 0; at < 6; {
			record := textOf(r, r.IntN(330))
			image := blocksFor(1+r.IntN(20)/19, number, record)
			if r.IntN(8) == 0 {
				image = anyBlock(r)
			}
			image = image[:min(len(image), (6-at)*128)]
			lay(t, p.d, at, image)
			lay(t, p.m.d, at, image)
			at += len(image) / 128
			number++
		}
		for gen := range 4 {
			p.read(gen)
		}
	}
}

// P17.1: New with any arguments, of any disk, and calls of what it answers.
func TestAnyNew(t *testing.T) {
	r := shuffled(42)
	anyInt := func() int {
		switch r.IntN(4) {
		case 0:
			return int(r.Uint64())
		case 1:
			return int(r.Uint64()) >> r.IntN(64)
		}
		return r.IntN(16) - 4
	}
	for range 20000 {
		d := madeDisk(t, 1+r.IntN(16))
		at, size := anyInt(), anyInt()
		j, e := journal.New(d, at, size)
		right := size >= 1 && size <= 16 && at >= 0 && at <= 16 && at+size <= d.Blocks()
		if right != (e == api.OK) || right != (j != nil) || !right && e != api.ErrArg {
			t.Fatalf("New(%d blocks, %d, %d): %v, %d", d.Blocks(), at, size, j, e)
		}
		if !right {
			checkRead(t, j, 1, nil, api.ErrNil)
			checkAppend(t, j, nil, api.ErrNil)
			continue
		}
		checkBegin(t, j, 1, api.OK)
		checkAppend(t, j, make([]byte, size*104+1), api.ErrFull)
		checkAppend(t, j, make([]byte, size*104), api.OK)
		checkRead(t, j, 1, [][]byte{make([]byte, size*104)}, api.OK)
	}
}

// FuzzBlocks takes any bytes for the blocks of a disk, and holds Read and Append against the model.
func FuzzBlocks(f *testing.F) {
	f.Add([]byte{}, []byte("record"), 1, 1)
	f.Add(imageFor(2, []byte("a"), make([]byte, 200), []byte("b")), []byte("record"), 2, 3)
	f.Add(imageFor(1, nil, nil, bytes.Repeat([]byte("x"), 300)), bytes.Repeat([]byte("r"), 209), 1, -1)
	f.Fuzz(func(t *testing.T, blocks, record []byte, gen, armed int) {
		p := newPair(t, 7, 1, 5)
		p.both(func(d *disk.Disk) { lay(t, d, 1, blocks[:min(len(blocks), 6*128)]) })
		p.read(1)
		p.read(gen)
		p.begin(gen)
		p.append(record[:min(len(record), 50)])
		p.read(gen)
		p.both(func(d *disk.Disk) { d.Arm(armed) })
		p.append(record)
		p.read(gen)
		p.both(func(d *disk.Disk) {
			d.Crash([]api.Fate{{Kind: armed % 3, Bytes: len(record)}, {Kind: gen % 3, Bytes: armed}})
		})
		p.read(gen)
		p.append(record)
		p.read(gen)
	})
}
