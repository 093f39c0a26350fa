package snap_test

import (
	"bytes"
	"math"
	"math/rand/v2"
	"testing"

	"regatta/api"
	"regatta/disk"
	"regatta/snap"
)

// anyHead is a head's block of a text, right, wrong in a number, or with a bit turned.
func anyHead(r *rand.Rand, text []byte) []byte {
	c := headFor(uint64(1+r.IntN(6)), text)
	odd := []uint64{0, 1, 2, 127, 128, 129, 256, 257, 384, 385, 1 << 62, 1<<62 + 1, 1 << 63, math.MaxUint64, r.Uint64(), 1<<62 - 1, 1<<62 - 2}
	switch r.IntN(6) {
	case 0:
		c.number = odd[r.IntN(len(odd))]
		c.again = c.number
	case 1:
		c.again = odd[r.IntN(len(odd))]
	case 2:
		c.length = odd[r.IntN(len(odd))]
	case 3:
		c.turned = r.Uint32() & r.Uint32() & r.Uint32()
	}
	c.between = byte(r.IntN(2) * r.IntN(256))
	b := c.block()
	if r.IntN(4) == 0 {
		b[r.IntN(len(b))] ^= 1 << r.IntN(8)
	}
	return b
}

// anyText is a text, now and then too long for a room.
func anyText(r *rand.Rand, room int) []byte {
	switch r.IntN(8) {
	case 0:
		return nil
	case 1:
		return textOf(r, room*128+r.IntN(3))
	case 2:
		return make([]byte, r.IntN(room*128+1))
	}
	return textOf(r, r.IntN(room*128+1))
}

// befall lets something befall both disks of a pair.
func befall(p pair, r *rand.Rand) {
	p.t.Helper()
	i := r.IntN(p.d.Blocks())
	text := textOf(r, r.IntN(129))
	switch r.IntN(6) {
	case 0:
		p.both(func(d *disk.Disk) { d.Write(i, text) })
	case 1:
		b := anyHead(r, text)
		at := p.m.at + r.IntN(2)*(1+p.m.room)
		p.both(func(d *disk.Disk) { d.Write(at, b) })
		p.both(func(d *disk.Disk) { d.Write(at+1, text) })
	case 2:
		p.both(func(d *disk.Disk) { d.Flush() })
	case 3:
		n := r.IntN(9) - 1
		p.both(func(d *disk.Disk) { d.Arm(n) })
	default:
		fates := anyFates(r)
		p.both(func(d *disk.Disk) { d.Crash(fates) })
	}
}

// P16.1 to P16.4: any order of calls, over blocks of any bytes, held against the model behind each call: whatever is on the disk, none panics.
func TestAnyCalls(t *testing.T) {
	r := shuffled(40)
	for range 1500 {
		room := 1 + r.IntN(3)
		at := r.IntN(3)
		p := newPair(t, at+2*(1+room)+r.IntN(3), at, room)
		if r.IntN(2) == 0 {
			junk := textOf(r, p.d.Blocks()*128)
			p.both(func(d *disk.Disk) { lay(t, d, 0, junk) })
		}
		for range 1 + r.IntN(40) {
			switch r.IntN(5) {
			case 0, 1:
				p.save(anyText(r, room))
			case 2:
				p.load()
			default:
				befall(p, r)
			}
		}
	}
}

// P16.1: New with any arguments, of any disk, and calls of what it answers.
func TestAnyNew(t *testing.T) {
	r := shuffled(41)
	anyInt := func() int {
		switch r.IntN(4) {
		case 0:
			return int(r.Uint64())
		case 1:
			return int(r.Uint64()) >> r.IntN(64)
		}
		return r.IntN(20) - 4
	}
	for range 20000 {
		d := madeDisk(t, 1+r.IntN(24))
		at, room := anyInt(), anyInt()
		s, e := snap.New(d, at, room)
		right := room >= 1 && room <= 12 && at >= 0 && at <= 24 && at+2*(1+room) <= d.Blocks()
		if right != (e == api.OK) || right != (s != nil) || !right && e != api.ErrArg {
			t.Fatalf("New(%d blocks, %d, %d): %v, %d", d.Blocks(), at, room, s, e)
		}
		if !right {
			checkLoad(t, s, nil, 0, api.ErrNil)
			checkSave(t, s, nil, 0, api.ErrNil)
			continue
		}
		checkSave(t, s, []byte("text"), 1, api.OK)
		checkLoad(t, s, []byte("text"), 1, api.OK)
	}
}

// FuzzBlocks takes any bytes for the blocks of a disk, and holds Load and Save against the model.
func FuzzBlocks(f *testing.F) {
	f.Add([]byte{}, []byte("text"), 1)
	f.Add(append(headFor(2, []byte("ahead")).block(), "ahead"...), []byte("text"), 3)
	f.Add(append(bytes.Repeat([]byte{0}, 384), append(headFor(1, []byte("ahead")).block(), "ahead"...)...), []byte("text"), -1)
	f.Fuzz(func(t *testing.T, blocks, text []byte, armed int) {
		p := newPair(t, 6, 0, 2)
		p.both(func(d *disk.Disk) { lay(t, d, 0, blocks[:min(len(blocks), 6*128)]) })
		p.load()
		p.both(func(d *disk.Disk) { d.Arm(armed) })
		p.save(text)
		p.load()
		p.both(func(d *disk.Disk) { d.Crash([]api.Fate{{Kind: armed % 3, Bytes: len(text)}}) })
		p.load()
		p.save(text)
		p.load()
	})
}
