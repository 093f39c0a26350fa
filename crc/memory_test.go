package crc_test

import (
	"bytes"
	"slices"
	"testing"

	"regatta/api"
	"regatta/crc"
)

// roomy is a text with room behind its bytes in which something stands.
func roomy(text string, behind ...byte) []byte {
	return append([]byte(text), behind...)[:len(text)]
}

// wholes are copies of texts with all their room.
func wholes(parts [][]byte) [][]byte {
	var out [][]byte
	for _, p := range parts {
		out = append(out, bytes.Clone(p[:cap(p)]))
	}
	return out
}

func sameTexts(a, b [][]byte) bool { return slices.EqualFunc(a, b, bytes.Equal) }

// DOC.md's rules 4 and 8: what is handed in stays as it is, its room too, and so does the list of the parts, with its room.
func TestHandedInIsLeftAlone(t *testing.T) {
	list := [][]byte{roomy("123", 7, 8, 9), roomy("", 1), roomy("456789", 255), roomy("behind", 3)}
	was := wholes(list)
	parts := list[:3]
	if got := crc.Of(parts...); got != 3421780262 {
		t.Error(got)
	}
	for _, sum := range numbers() {
		crc.More(sum, list[0])
		crc.More(sum, list[1])
	}
	if !sameTexts(wholes(list), was) || len(list[0]) != 3 || len(list[3]) != 6 {
		t.Errorf("%v, was %v", wholes(list), was)
	}
}

// DOC.md's rule 8: what lies behind a text in its memory, or behind the list of the parts, is of no matter.
func TestRoomIsNotRead(t *testing.T) {
	for x := range 256 {
		text := roomy("123456789", byte(x), byte(x+1))
		parts := append(make([][]byte, 0, 4), text, roomy("", byte(x)), text)[:2]
		if crc.Of(text) != 3421780262 || crc.Of(parts...) != 3421780262 || crc.More(0, text) != 3421780262 {
			t.Fatal(x)
		}
	}
}

// DOC.md's rule 4: one text may be all parts; and a text that is changed has its new sum.
func TestOneTextForAll(t *testing.T) {
	text := []byte("ab")
	if got, want := crc.Of(text, text, text[1:], text[:1]), crc.Of([]byte("ababba")); got != want {
		t.Error(got, want)
	}
	text[0] = 'c'
	if got, want := crc.Of(text), crc.Of([]byte("cb")); got != want {
		t.Error(got, want)
	}
}

// DOC.md's rule 5: what was asked ahead is of no matter.
func TestCallsDoNotHangTogether(t *testing.T) {
	text := []byte("123456789")
	for _, x := range numbers() {
		crc.More(x, text[:5])
		crc.Of(text[3:], text)
		crc.Join(x, ^x, -1)
		crc.Join(x, ^x, 12345)
		if got := crc.Of(text); got != 3421780262 {
			t.Fatal(got)
		}
		if got, e := crc.Join(crc.Of(text[:3]), crc.Of(text[3:]), 6); got != 3421780262 || e != api.OK {
			t.Fatal(got, e)
		}
	}
}
