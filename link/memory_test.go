package link_test

import (
	"bytes"
	"testing"

	"regatta/api"
)

// roomy is a text with room behind its bytes in which something stands.
func roomy(text string) []byte {
	return append([]byte(text), bytes.Repeat([]byte("behind"), 30)...)[:len(text)]
}

// spoil writes over a text and all its room.
func spoil(b []byte) {
	b = b[:cap(b)]
	for i := range b {
		b[i] = 0xee
	}
}

// DOC.md's rules 4 and 8: what is sent stays as it is, its room too, whatever becomes of the message; it isn't kept, and nothing that stands in its room is sent.
func TestHandedToSend(t *testing.T) {
	for _, s := range []string{"", "a", "text", string(bytes.Repeat([]byte("f"), 300))} {
		n := made(t, 2, 3)
		handed := roomy(s)
		was := bytes.Clone(handed[:cap(handed)])
		must(t, n.Send(0, 1, handed))
		must(t, n.Double(0, 1, 0))
		must(t, n.Send(0, 1, handed))
		checkFault(t, n.Send(0, 1, handed), api.ErrFull)
		if s != "" {
			must(t, n.Flip(0, 1, 0, 8*len(s)-1))
			must(t, n.Flip(0, 1, 0, 8*len(s)-1))
		}
		b, _ := n.Take(0, 1, 0)
		spoil(b)
		if !bytes.Equal(handed[:cap(handed)], was) {
			t.Fatalf("%q became %q", was, handed[:cap(handed)])
		}
		spoil(handed)
		checkRow(t, n, 0, 1, s, s)
	}
}

// DOC.md's rule 4: a message that was taken is memory of its own: a caller that changes it, with its room, changes nothing that waits, and no other answer; nor does what is done to the line change it.
func TestAnswersAreNewMemory(t *testing.T) {
	n := made(t, 3, 5)
	sendAll(t, n, 0, 1, "ab", "cd", "ef")
	sendAll(t, n, 1, 0, "ab")
	must(t, n.Double(0, 1, 0))
	must(t, n.Double(0, 1, 0))
	first, _ := n.Take(0, 1, 0)
	second, _ := n.Take(0, 1, 2)
	spoil(first)
	if string(second) != "ab" {
		t.Fatalf("%q", second)
	}
	checkRow(t, n, 0, 1, "cd", "ef", "ab")
	checkRow(t, n, 1, 0, "ab")
	_ = append(second[:1], "xxxxxxxxxxxxxxxx"...)
	checkRow(t, n, 0, 1, "cd", "ef", "ab")
	third, _ := n.Take(0, 1, 2)
	sendAll(t, n, 0, 1, "gh", "ij", "kl")
	must(t, n.Flip(0, 1, 4, 0))
	must(t, n.Drop(0, 1, 0))
	if string(third) != "ab" {
		t.Fatalf("%q", third)
	}
	checkRow(t, n, 0, 1, "ef", "gh", "ij", "jl")
}

// DOC.md's rule 4: of a message without bytes too, what is answered is nobody else's.
func TestEmptyAnswers(t *testing.T) {
	n := made(t, 2, 2)
	sendAll(t, n, 0, 1, "", "")
	first, _ := n.Take(0, 1, 0)
	second, _ := n.Take(0, 1, 0)
	_ = append(first, "xxxx"...)
	spoil(first)
	if len(second) != 0 || bytes.Contains(second[:cap(second)], []byte("x")) {
		t.Fatalf("%q", second[:cap(second)])
	}
}
