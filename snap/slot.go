package snap

import (
	"slices"

	"regatta/api"
	"regatta/crc"
	"regatta/disk"
)

// Where a head's numbers stand, and how many bytes they have.
const (
	numberAt  = 0
	lengthAt  = 8
	textSumAt = 16
	headSumAt = 20
	againAt   = api.BlockSize - longBytes // the number once more: where it is there, all ahead of it was written

	longBytes = 8
	sumBytes  = 4
)

// place is where a slot lies: its head's block, and room for a text behind it.
type place struct {
	disk     *disk.Disk
	which    int // of a snap's slots
	at, room int
}

// head is the bytes of a head's block.
type head [api.BlockSize]byte

// slot is a slot, with what its head's block holds.
type slot struct {
	place
	head head
}

// text is what a slot holds: a text and its number, from 1 on.
type text struct {
	place
	n     int
	bytes []byte
}

// keep writes a text, and then, when all of it is safe, its head: until that is whole, the other slot is the one that counts.
func keep(t text) api.Errno {
	if e := t.write(); e != api.OK {
		return e
	}
	return slot{place: t.place, head: headOf(t.n, t.bytes)}.write()
}

// write makes a text's blocks safe.
func (t text) write() api.Errno {
	at := t.at
	for b := range slices.Chunk(t.bytes, api.BlockSize) {
		at++
		if e := t.disk.Write(at, b); e != api.OK {
			return e
		}
	}
	return t.disk.Flush()
}

// write makes a slot's head safe.
func (s slot) write() api.Errno {
	if e := s.disk.Write(s.at, s.head[:]); e != api.OK {
		return e
	}
	return s.disk.Flush()
}

// held is the text of the slot that lies here; without a number, if the slot isn't whole.
func (p place) held() (text, api.Errno) {
	b, e := p.disk.Read(p.at)
	if e != api.OK {
		return text{}, e
	}
	s := slot{place: p, head: head(b)}
	if !s.right() {
		return text{}, api.OK
	}
	b, e = s.read(int(s.head.number(lengthAt, longBytes)))
	if e != api.OK || uint64(crc.Of(b)) != s.head.number(textSumAt, sumBytes) {
		return text{}, e
	}
	return text{place: p, n: int(s.head.number(numberAt, longBytes)), bytes: b}, api.OK
}

// read is so many bytes of the blocks behind the head's.
func (p place) read(size int) ([]byte, api.Errno) {
	out := make([]byte, 0, size)
	for i := p.at + 1; len(out) < size; i++ {
		b, e := p.disk.Read(i)
		if e != api.OK {
			return nil, e
		}
		out = append(out, b[:min(len(b), size-len(out))]...)
	}
	return out, api.OK
}

// right says whether a slot's head is one that belongs there.
func (s slot) right() bool {
	n := s.head.number(numberAt, longBytes)
	switch {
	case n != s.head.number(againAt, longBytes):
		return false
	case n < 1 || n > maxNumber || int(n)%slots != s.which:
		return false
	case s.head.number(lengthAt, longBytes) > uint64(s.room*api.BlockSize):
		return false
	}
	return s.head.number(headSumAt, sumBytes) == s.head.sum()
}

// headOf is the head of a text.
func headOf(n int, data []byte) head {
	h := head{}.with(numberAt, longBytes, uint64(n)).with(againAt, longBytes, uint64(n))
	h = h.with(lengthAt, longBytes, uint64(len(data)))
	h = h.with(textSumAt, sumBytes, uint64(crc.Of(data)))
	return h.with(headSumAt, sumBytes, h.sum())
}

// sum is the sum of what stands ahead of a head's own.
func (h head) sum() uint64 {
	return uint64(crc.Of(h[:headSumAt]))
}

// with is the head with a number in so many bytes from a place on, the lowest first.
func (h head) with(at, size int, x uint64) head {
	for i := range size {
		h[at+i] = byte(x >> (8 * i))
	}
	return h
}

// number is what stands in so many bytes from a place on.
func (h head) number(at, size int) uint64 {
	x := uint64(0)
	for i := range size {
		x |= uint64(h[at+i]) << (8 * i)
	}
	return x
}
