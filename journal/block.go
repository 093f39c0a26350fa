package journal

import (
	"iter"

	"regatta/api"
)

// partBytes is how many bytes of a record a block has; the numbers of its tag stand behind them.
const partBytes = 104

// The numbers of a tag, in their order.
const (
	sizeOf   = iota // how many bytes the record has
	partsOf         // how many parts it has
	partOf          // which of them this is
	recordOf        // which record of the generation it is
	genOf           // the generation
	numbers
)

// widths is how many bytes each number of a tag has in a block.
var widths = [numbers]int{4, 2, 2, 8, 8}

// tag is what a block says of itself. The generation is its last number: a block that was torn is of this generation only if all of it was written.
type tag [numbers]uint64

// block is the bytes of a block.
type block [api.BlockSize]byte

// place is where a record goes: its generation, which record of it it is, and the first of its blocks among the journal's.
type place struct {
	gen, record, block int
}

// first is where the first record of a generation goes.
func first(gen int) place {
	return place{gen: gen, record: 1}
}

// behind is the place behind a record of so many bytes that goes here.
func (p place) behind(size int) place {
	return place{gen: p.gen, record: p.record + 1, block: p.block + needs(size)}
}

// tag is that of a part of a record of so many bytes that goes here.
func (p place) tag(size, part int) tag {
	return tag{
		sizeOf:   uint64(size),
		partsOf:  uint64(needs(size)),
		partOf:   uint64(part),
		recordOf: uint64(p.record),
		genOf:    uint64(p.gen),
	}
}

// needs is how many blocks a record of so many bytes needs.
func needs(size int) int {
	return max(1, (size+partBytes-1)/partBytes)
}

// parts tells the parts of a record one by one: their numbers, and the record's bytes that each has. One without bytes has a part too.
func parts(record []byte) iter.Seq2[int, []byte] {
	return func(yield func(int, []byte) bool) {
		for k := range needs(len(record)) {
			from := k * partBytes
			if !yield(k, record[from:min(from+partBytes, len(record))]) {
				return
			}
		}
	}
}

// blockOf is a block with bytes of a record, noughts behind them, and a tag.
func blockOf(piece []byte, t tag) block {
	var b block
	copy(b[:], piece)
	at := partBytes
	for n, width := range widths {
		for i := range width {
			b[at+i] = byte(t[n] >> (8 * i))
		}
		at += width
	}
	return b
}

// tag is what the block says of itself.
func (b block) tag() tag {
	var t tag
	at := partBytes
	for n, width := range widths {
		for i := range width {
			t[n] |= uint64(b[at+i]) << (8 * i)
		}
		at += width
	}
	return t
}
