package pack_test

import (
	"bytes"
	"slices"
	"testing"

	"regatta/api"
	"regatta/pack"
)

// spoil writes over a list and all its room.
func spoil[T any](list []T, with T) {
	list = list[:cap(list)]
	for i := range list {
		list[i] = with
	}
}

// roomy is a list with room behind it in which something stands.
func roomy[T any](behind T, list ...T) []T {
	return append(slices.Clone(list), behind, behind, behind)[:len(list)]
}

// DOC.md's rules 4 and 8: what is handed to a writer stays as it is, and what lies behind it is not written.
func TestHandedToAWriter(t *testing.T) {
	text, list, few := roomy(99, []byte("abc")...), roomy(-77, 1, -2, 3), roomy(88, api.One, -api.One)
	for range 3 {
		w := &pack.Writer{}
		w.Bytes(text)
		w.Ints(list)
		w.Fixes(few)
		b, e := w.Done()
		want := append([]byte("\x03abc\x03\x02\x03\x06\x02"), append(formOfFix(api.One), formOfFix(-api.One)...)...)
		if e != api.OK || !bytes.Equal(b, want) {
			t.Fatalf("%x, %d", b, e)
		}
	}
	if !bytes.Equal(text[:6], []byte("abc\x63\x63\x63")) || !slices.Equal(list[:6], []int{1, -2, 3, -77, -77, -77}) || !slices.Equal(few[:5], []api.Fix{api.One, -api.One, 88, 88, 88}) {
		t.Error(text[:6], list[:6], few[:5])
	}
}

// DOC.md's rule 4: a writer keeps nothing of what it was handed.
func TestWriterKeepsNothing(t *testing.T) {
	text, list, few := []byte("abc"), []int{1, -2, 3}, []api.Fix{api.One}
	things := []thing{{kind: aText, text: []byte("abc")}, {kind: someWholes, wholes: []int{1, -2, 3}}, {kind: someFixes, fixes: []api.Fix{api.One}}}
	w := &pack.Writer{}
	w.Bytes(text)
	spoil(text, 255)
	w.Ints(list)
	spoil(list, 9999)
	w.Fixes(few)
	spoil(few, -1)
	if b, e := w.Done(); e != api.OK || !bytes.Equal(b, formOf(things...)) {
		t.Errorf("%x, %d", b, e)
	}
}

// P12.1: what Done answered may be changed, its room too; what it answers then is the same as ahead, and an answer stays as it was while it is written on.
func TestDoneAnswersNewMemory(t *testing.T) {
	r := shuffled(12)
	w := &pack.Writer{}
	var things []thing
	for range 60 {
		first, _ := w.Done()
		spoil(first, 255)
		second, _ := w.Done()
		was := bytes.Clone(second)
		third, _ := w.Done()
		spoil(third, 254)
		next := anyThing(r)
		write(w, next)
		if !bytes.Equal(second, was) || !bytes.Equal(was, formOf(things...)) {
			t.Fatalf("%x, was %x", second, was)
		}
		things = append(things, next)
	}
}

// P12.1: an answer may be written into the writer that gave it.
func TestAnswerWrittenAgain(t *testing.T) {
	w := &pack.Writer{}
	w.Bytes([]byte("ab"))
	b, _ := w.Done()
	w.Bytes(b)
	if got, e := w.Done(); e != api.OK || string(got) != "\x02ab\x03\x02ab" {
		t.Errorf("%q, %d", got, e)
	}
}

// P12.2: the bytes that were handed to Read may be changed afterwards; they stay as they are, and what lies behind them is of no matter.
func TestReadCopies(t *testing.T) {
	r := shuffled(13)
	for range 200 {
		things := someThings(r, 5)
		whole := formOf(things...)
		b := roomy(1, whole...)
		reader := pack.Read(b)
		for i, x := range things {
			if got := read(reader, x.kind); !same(got, x) {
				t.Fatalf("at %d: %+v, want %+v", i, got, x)
			}
			if i == 0 {
				if !bytes.Equal(b[:len(b)+3], append(slices.Clone(whole), 1, 1, 1)) {
					t.Fatal("changed")
				}
				spoil(b, 255)
			}
		}
		if reader.Done() != api.OK {
			t.Fatal(reader.Done())
		}
	}
}

// DOC.md's rule 8: a reader ends where its bytes end, though there is room with more behind them.
func TestReaderEndsWithItsBytes(t *testing.T) {
	for _, k := range knownForms() {
		b := formOf(k.thing)
		for n := range b {
			r := pack.Read(b[:n])
			read(r, k.kind)
			checkNothing(t, r, api.ErrEnd)
		}
	}
}

// DOC.md's rule 4: what a reader answered may be changed, its room too: nothing of it is what is read next, nor what was answered ahead.
func TestReaderAnswersNewMemory(t *testing.T) {
	r := shuffled(14)
	for range 200 {
		things := someThings(r, 12)
		b := formOf(things...)
		reader := pack.Read(b)
		var ahead []thing
		for i, x := range things {
			got := read(reader, x.kind)
			if !same(got, x) {
				t.Fatalf("at %d: %+v, want %+v", i, got, x)
			}
			if i%2 == 0 {
				ahead = append(ahead, got)
				continue
			}
			spoil(got.text, 255)
			spoil(got.wholes, -9)
			spoil(got.fixes, -9)
		}
		for i, got := range ahead {
			if !same(got, things[2*i]) {
				t.Fatalf("what was answered at %d: %+v, want %+v", 2*i, got, things[2*i])
			}
		}
		if !bytes.Equal(b, formOf(things...)) {
			t.Fatal("what was handed in")
		}
	}
}
