package pack

import (
	"bytes"

	"regatta/api"
)

// Reader reads things, one behind the other.
type Reader struct {
	made  bool   // by Read
	left  []byte // what isn't read yet; it may share its memory with a copy of the reader, so it is never written
	fault api.Errno
}

// Read is a reader of bytes.
func Read(b []byte) *Reader {
	return &Reader{made: true, left: bytes.Clone(b)}
}

// Uint reads a count.
func (r *Reader) Uint() uint64 { return face(r, r.count) }

// Int reads a whole number.
func (r *Reader) Int() int { return face(r, r.whole) }

// Fix reads a Fix.
func (r *Reader) Fix() api.Fix { return face(r, r.fix) }

// Bytes reads a text.
func (r *Reader) Bytes() []byte { return face(r, r.text) }

// Ints reads numbers.
func (r *Reader) Ints() []int { return face(r, r.wholes) }

// Fixes reads Fixes.
func (r *Reader) Fixes() []api.Fix { return face(r, r.fixes) }

// Error is the first error.
func (r *Reader) Error() api.Errno {
	if r == nil || !r.made {
		return api.ErrNil
	}
	return r.fault
}

// Done is the first error, also that bytes are left. That is told, not kept: what is left may still be read.
func (r *Reader) Done() api.Errno {
	if e := r.Error(); e != api.OK {
		return e
	}
	if len(r.left) > 0 {
		return api.ErrLeft
	}
	return api.OK
}

// face reads one thing for a call of the reader's face. All that reads below it gives up by a panic with an error, and is caught here; any other panic would be a fault of this package, and is not hidden.
func face[T any](r *Reader, read func() T) (thing T) {
	if r.Error() != api.OK {
		return thing
	}
	defer func() {
		if why := recover(); why != nil {
			r.left, r.fault = nil, why.(api.Errno)
		}
	}()
	return read()
}

// list reads a count, and as many items. Each has at least so many bytes: so a count that can't be is told ahead of them, and asks for no memory.
func list[T any](r *Reader, least int, item func() T) []T {
	n := r.count()
	if n > uint64(len(r.left)/least) {
		panic(api.ErrEnd)
	}
	items := make([]T, n)
	for i := range items {
		items[i] = item()
	}
	return items
}

func (r *Reader) wholes() []int { return list(r, 1, r.whole) }

func (r *Reader) fixes() []api.Fix { return list(r, fixed, r.fix) }

func (r *Reader) text() []byte { return bytes.Clone(r.take(r.count())) }

// count reads a count. Its tenth byte has room for one bit alone: from there on it is at its end, or wrong. A last byte of nought, behind others, is one too many.
func (r *Reader) count() uint64 {
	n := uint64(0)
	for at := 0; ; at += group {
		b := r.take(1)[0]
		if at > 0 && b == 0 || at == 9*group && b > 1 {
			panic(api.ErrForm)
		}
		n |= uint64(b&^more) << at
		if b < more {
			return n
		}
	}
}

// whole reads a whole number: an odd count is one below 0.
func (r *Reader) whole() int {
	n := r.count()
	half := int(n >> 1)
	if n&1 == 1 {
		return ^half
	}
	return half
}

func (r *Reader) fix() api.Fix {
	n := uint64(0)
	for i, b := range r.take(fixed) {
		n |= uint64(b) << (8 * i)
	}
	return api.Fix(n)
}

// take takes the next n bytes off what is left.
func (r *Reader) take(n uint64) []byte {
	if n > uint64(len(r.left)) {
		panic(api.ErrEnd)
	}
	front := r.left[:n]
	r.left = r.left[n:]
	return front
}
