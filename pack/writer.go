package pack

import (
	"bytes"

	"regatta/api"
)

// Writer has written things, one behind the other.
type Writer struct {
	written []byte
	big     bool // it would have been too much: nothing is written any more
}

// Uint writes a count.
func (w *Writer) Uint(n uint64) {
	for ; n >= more; n >>= group {
		w.add(byte(n) | more)
	}
	w.add(byte(n))
}

// Int writes a whole number. Below 0 it is twice ^n, and one more: that is -2 n - 1, and no step on the way to it leaves its range.
func (w *Writer) Int(n int) {
	if n < 0 {
		w.Uint(uint64(^n)<<1 | 1)
		return
	}
	w.Uint(uint64(n) << 1)
}

// Fix writes a Fix.
func (w *Writer) Fix(x api.Fix) {
	for i := range fixed {
		w.add(byte(x >> (8 * i)))
	}
}

// Bytes writes a text.
func (w *Writer) Bytes(b []byte) {
	w.Uint(uint64(len(b)))
	w.add(b...)
}

// Ints writes numbers.
func (w *Writer) Ints(list []int) {
	w.Uint(uint64(len(list)))
	for _, n := range list {
		w.Int(n)
	}
}

// Fixes writes Fixes.
func (w *Writer) Fixes(list []api.Fix) {
	w.Uint(uint64(len(list)))
	for _, x := range list {
		w.Fix(x)
	}
}

// Done is all that was written.
func (w *Writer) Done() ([]byte, api.Errno) {
	switch {
	case w == nil:
		return nil, api.ErrNil
	case w.big:
		return nil, api.ErrBig
	}
	return bytes.Clone(w.written), api.OK
}

// add writes bytes of a form. Where one has no room, all that was written is let go: nobody will be told it any more, so a form of which some bytes stand there already need not be taken back.
func (w *Writer) add(part ...byte) {
	if w == nil || w.big {
		return
	}
	if len(part) > api.MaxBytes-len(w.written) {
		w.written, w.big = nil, true
		return
	}
	w.written = append(w.written, part...)
}
