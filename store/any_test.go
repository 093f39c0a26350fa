package store_test

import (
	"bytes"
	"math"
	"math/rand/v2"
	"testing"

	"regatta/api"
	"regatta/disk"
	"regatta/store"
)

// anyBase is a base, now and then too long for a room.
func anyBase(r *rand.Rand, room int) []byte {
	switch r.IntN(8) {
	case 0:
		return nil
	case 1:
		return textOf(r, room*128+r.IntN(3))
	case 2:
		return make([]byte, r.IntN(room*128+1))
	}
	return textOf(r, r.IntN(room*128+1))
}

// anyLength is how many bytes a record has, now and then too many.
func anyLength(r *rand.Rand) int {
	switch r.IntN(12) {
	case 0:
		return 0
	case 1:
		return 104 * r.IntN(8)
	case 2:
		return 104*r.IntN(8) + 1
	case 3:
		return []int{api.MaxRecord, api.MaxRecord + 1, 16384}[r.IntN(3)]
	}
	return r.IntN(330)
}

// anyNumber is a text's number, or a generation: near the first ones, at its ends, or any.
func anyNumber(r *rand.Rand) int {
	switch r.IntN(10) {
	case 0:
		return []int{0, 1<<62 - 1, 1 << 62, 1<<62 + 1, math.MaxInt, math.MinInt, -1, int(r.Uint64())}[r.IntN(8)]
	case 1:
		return 256 + r.IntN(3)
	}
	return 1 + r.IntN(5)
}

// layAny lays a text, or records, on both disks of a pair.
func layAny(p *pair, r *rand.Rand) {
	p.t.Helper()
	n, text := anyNumber(r), textOf(r, r.IntN(129))
	if r.IntN(2) == 0 {
		p.both(func(d *disk.Disk) {
			at := n & 1 * (1 + p.m.room)
			write(d, at, headFor(uint64(n), text))
			write(d, at+1, text)
		})
		return
	}
	image := imageFor(n, text, text[:len(text)/2])
	image = image[:min(len(image), (p.d.Blocks()-p.m.behind())*128)]
	p.both(func(d *disk.Disk) { write(d, p.m.behind(), image) })
}

// befall lets something befall both disks of a pair.
func befall(p *pair, r *rand.Rand) {
	p.t.Helper()
	switch r.IntN(6) {
	case 0:
		i, text := r.IntN(p.d.Blocks()), textOf(r, r.IntN(129))
		p.both(func(d *disk.Disk) { d.Write(i, text) })
	case 1:
		layAny(p, r)
	case 2:
		p.both(func(d *disk.Disk) { d.Flush() })
	case 3:
		n := r.IntN(12) - 1
		p.both(func(d *disk.Disk) { d.Arm(n) })
	default:
		fates := anyFates(r)
		p.both(func(d *disk.Disk) { d.Crash(fates) })
	}
}

// P18.1 to P18.4: any order of calls with any arguments, over blocks of any bytes, held against the model behind each call: whatever is on the disk, none panics.
func TestAnyCalls(t *testing.T) {
	r := shuffled(40)
	for range 1500 {
		room := 1 + r.IntN(3)
		p := newPair(t, 2*(1+room)+1+r.IntN(8), room)
		if r.IntN(4) == 0 {
			junk := textOf(r, p.d.Blocks()*128)
			p.both(func(d *disk.Disk) { lay(t, d, 0, junk) })
		}
		for range 1 + r.IntN(50) {
			switch r.IntN(9) {
			case 0, 1:
				p.save(anyBase(r, room))
			case 2, 3, 4:
				p.append(textOf(r, anyLength(r)))
			case 5, 6:
				p.open()
			default:
				befall(p, r)
			}
		}
	}
}

// P18.1: Open with any arguments, of any disk, and calls of what it answers.
func TestAnyOpen(t *testing.T) {
	r := shuffled(41)
	anyInt := func() int {
		switch r.IntN(4) {
		case 0:
			return int(r.Uint64())
		case 1:
			return int(r.Uint64()) >> r.IntN(64)
		}
		return r.IntN(16) - 4
	}
	for range 20000 {
		d := madeDisk(t, 1+r.IntN(24))
		room := anyInt()
		if room < 1 || room > 24 || 2*room+3 > d.Blocks() {
			checkRefused(t, d, room, api.ErrArg)
			continue
		}
		s := checkOpen(t, d, room, nil, nil, api.OK)
		behind := d.Blocks() - 2*room - 2
		checkSave(t, s, make([]byte, room*128+1), api.ErrRoom)
		checkSave(t, s, make([]byte, room*128), api.OK)
		checkAppend(t, s, make([]byte, behind*104+1), api.ErrFull)
		checkAppend(t, s, make([]byte, behind*104), api.OK)
		checkState(t, s, true, 0)
		checkOpen(t, d, room, make([]byte, room*128), [][]byte{make([]byte, behind*104)}, api.OK)
	}
}

// FuzzBlocks takes any bytes for the blocks of a disk, and holds Open, Save and Append against the model.
func FuzzBlocks(f *testing.F) {
	f.Add([]byte{}, []byte("text"), 1, 1)
	slot := append(headFor(2, []byte("ahead")), append([]byte("ahead"), make([]byte, 123)...)...)
	f.Add(append(append(bytes.Clone(slot), make([]byte, 256)...), imageFor(2, []byte("a"), make([]byte, 200))...), []byte("text"), 2, 3)
	f.Add(append(append(bytes.Clone(slot), headFor(1, nil)...), imageFor(1, nil, nil)...), bytes.Repeat([]byte("r"), 209), 1, -1)
	f.Fuzz(func(t *testing.T, blocks, text []byte, fate, armed int) {
		p := newPair(t, 9, 1)
		p.both(func(d *disk.Disk) { lay(t, d, 0, blocks[:min(len(blocks), 9*128)]) })
		p.open()
		p.append(text)
		p.save(text)
		p.append(text)
		p.save(text[:min(len(text), 128)])
		p.both(func(d *disk.Disk) { d.Arm(armed) })
		p.append(text)
		p.save(text[:min(len(text), 100)])
		p.append(text)
		p.open()
		p.both(func(d *disk.Disk) {
			d.Crash([]api.Fate{{Kind: armed % 3, Bytes: len(text)}, {Kind: fate % 3, Bytes: armed}})
		})
		p.open()
		p.save(text)
		p.append(text)
		p.open()
		if s, _, _, e := store.Open(p.d, armed); e != api.OK {
			checkSave(t, s, text, api.ErrNil)
		}
	})
}
