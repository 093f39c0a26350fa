package pack_test

import (
	"bytes"
	"testing"

	"regatta/api"
	"regatta/pack"
)

// filled is a writer that has room for so many bytes more, and what it has written. The text's count has three bytes.
func filled(t *testing.T, room int) (*pack.Writer, []byte) {
	t.Helper()
	w := &pack.Writer{}
	w.Bytes(bytes.Repeat([]byte{7}, api.MaxBytes-room-3))
	b, e := w.Done()
	if e != api.OK || len(b) != api.MaxBytes-room {
		t.Fatalf("%d bytes, %d", len(b), e)
	}
	return w, b
}

func checkTooBig(t *testing.T, w *pack.Writer) {
	t.Helper()
	for range 2 {
		if b, e := w.Done(); len(b) != 0 || e != api.ErrBig {
			t.Fatalf("%d bytes, %d", len(b), e)
		}
	}
}

// P12.1: each form up to MaxBytes bytes just; with a byte less of room it is too big, and nothing is written from then on, also nothing that would have had room.
func TestEachFormAtTheLimit(t *testing.T) {
	for _, k := range knownForms() {
		size := len(formOf(k.thing))
		w, b := filled(t, size)
		write(w, k.thing)
		got, e := w.Done()
		if e != api.OK || len(got) != api.MaxBytes || !bytes.Equal(got, append(b, formOf(k.thing)...)) {
			t.Fatalf("%+v: %d bytes, %d", k.thing, len(got), e)
		}
		for room := range size {
			w, _ = filled(t, room)
			write(w, k.thing)
			checkTooBig(t, w)
			for _, next := range knownForms() {
				write(w, next.thing)
				checkTooBig(t, w)
			}
		}
	}
}

// P12.1: at the limit nothing more has room: each form has a byte at least.
func TestBehindTheLimit(t *testing.T) {
	for _, k := range knownForms() {
		w, _ := filled(t, 0)
		write(w, k.thing)
		checkTooBig(t, w)
	}
}

// P12.1: the limit is met by many small things as by one.
func TestLimitByAndBy(t *testing.T) {
	w := &pack.Writer{}
	for range api.MaxBytes {
		w.Uint(5)
	}
	if b, e := w.Done(); e != api.OK || !bytes.Equal(b, bytes.Repeat([]byte{5}, api.MaxBytes)) {
		t.Fatalf("%d bytes, %d", len(b), e)
	}
	w.Uint(0)
	checkTooBig(t, w)
}

// P12.1: one text or list that is as long as can be, and one that is longer by one. Their counts have three bytes.
func TestOneListAtTheLimit(t *testing.T) {
	most := api.MaxBytes - 3
	for _, size := range []int{most - 1, most, most + 1, most + 2, most + 3, most + 4, 2 * most} {
		for _, x := range []thing{
			{kind: aText, text: make([]byte, size)},
			{kind: someWholes, wholes: make([]int, size)},
		} {
			checkAtLimit(t, x, size <= most)
		}
	}
	for _, size := range []int{most/8 - 1, most / 8, most/8 + 1, most/8 + 2, api.MaxBytes} {
		checkAtLimit(t, thing{kind: someFixes, fixes: make([]api.Fix, size)}, size <= most/8)
	}
}

func checkAtLimit(t *testing.T, x thing, room bool) {
	t.Helper()
	w := &pack.Writer{}
	write(w, x)
	if !room {
		checkTooBig(t, w)
		return
	}
	if b, e := w.Done(); e != api.OK || !bytes.Equal(b, formOf(x)) {
		t.Fatalf("kind %d: %d bytes, %d", x.kind, len(b), e)
	}
}

// P12.1: what is too big is the form, not its first bytes: a list is it by its last item alone.
func TestTooBigByTheLastItem(t *testing.T) {
	w, _ := filled(t, 5)
	w.Ints([]int{0, 0, 0, 64}) // 1, 1, 1, 1 and 2 bytes
	checkTooBig(t, w)
	w, _ = filled(t, 16)
	w.Fixes([]api.Fix{1, 2})
	checkTooBig(t, w)
	w, _ = filled(t, 9)
	w.Uint(1 << 63)
	checkTooBig(t, w)
}

// P12.1: an answer that was given ahead stays as it was.
func TestAnswerAheadOfTooBig(t *testing.T) {
	w, b := filled(t, 1)
	was := bytes.Clone(b)
	w.Int(64)
	checkTooBig(t, w)
	if !bytes.Equal(b, was) {
		t.Error("changed")
	}
}

// P12.2, P12.4: what has MaxBytes bytes is read again; and what has more is read too, the limit is the writer's.
func TestReadAtTheLimit(t *testing.T) {
	for _, size := range []int{api.MaxBytes - 3, api.MaxBytes, 3 * api.MaxBytes} {
		for _, x := range []thing{
			{kind: aText, text: bytes.Repeat([]byte{9}, size)},
			{kind: someWholes, wholes: make([]int, size)},
			{kind: someFixes, fixes: make([]api.Fix, size/8)},
		} {
			r := pack.Read(formOf(x))
			if got := read(r, x.kind); !same(got, x) || r.Done() != api.OK {
				t.Fatalf("kind %d, %d: %d", x.kind, size, r.Done())
			}
		}
	}
}
