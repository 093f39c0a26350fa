package frame_test

import (
	"bytes"
	"testing"

	"regatta/api"
	"regatta/frame"
)

// roomy is a text with room behind its bytes in which something stands.
func roomy(text, behind []byte) []byte {
	return append(bytes.Clone(text), behind...)[:len(text)]
}

// spoil writes over a text and all its room.
func spoil(b []byte) {
	b = b[:cap(b)]
	for i := range b {
		b[i] = 0xee
	}
}

// whole is a copy of a text with all its room.
func whole(b []byte) []byte { return bytes.Clone(b[:cap(b)]) }

// DOC.md's rules 4 and 8: a payload stays as it is, its room too, and nothing of it is kept.
func TestHandedToSeal(t *testing.T) {
	for _, p := range [][]byte{{}, []byte("a"), []byte("payload"), make([]byte, api.MaxPayload)} {
		want := formOf(6, p)
		handed := roomy(p, bytes.Repeat([]byte("behind"), 20))
		was := whole(handed)
		b := sealed(t, 6, handed)
		if !bytes.Equal(b, want) || !bytes.Equal(whole(handed), was) {
			t.Fatalf("%x, %x", short(b), short(whole(handed)))
		}
		spoil(handed)
		if !bytes.Equal(b, want) {
			t.Fatal("it shares the payload's memory")
		}
		handed = roomy(p, []byte("behind"))
		was = whole(handed)
		spoil(sealed(t, 6, handed))
		if !bytes.Equal(whole(handed), was) {
			t.Fatal("the payload shares its memory")
		}
	}
}

// DOC.md's rule 4: two frames of the same payload are two.
func TestSealAnswersNewMemory(t *testing.T) {
	p := []byte("payload")
	first := sealed(t, 6, p)
	spoil(sealed(t, 6, p))
	if !bytes.Equal(first, formOf(6, p)) || !bytes.Equal(sealed(t, 6, p), first) {
		t.Errorf("%x", first)
	}
}

// lookedAt are texts that are read: frames, none, and both.
func lookedAt() [][]byte {
	_, forms := someFrames(40, 4)
	frames := bytes.Join(forms, nil)
	return [][]byte{{}, formOf(1, nil), formOf(2, []byte("a")), frames, append(bytes.Clone(frames), "RG\x01"...), []byte("junk"), append([]byte("x"), frames...), frames[:len(frames)-1]}
}

// readAll is all that is answered of a text.
func readAll(b []byte) (payloads [][]byte) {
	f, _, _ := frame.Open(b)
	payloads = append(payloads, f.Payload)
	list, _, _ := frame.Split(b)
	for _, f := range list {
		payloads = append(payloads, f.Payload)
	}
	for _, f := range frame.Hunt(b) {
		payloads = append(payloads, f.Payload)
	}
	return payloads
}

// DOC.md's rules 4 and 8: bytes that are read stay as they are, their room too, and what is answered is memory of its own: each payload may be changed, with its room, and neither the bytes nor another payload change.
func TestReadAnswersNewMemory(t *testing.T) {
	for _, b := range lookedAt() {
		handed := roomy(b, formOf(3, []byte("behind")))
		was := whole(handed)
		want := readAll(bytes.Clone(b))
		got := readAll(handed)
		for i := range got {
			for k := i; k < len(got); k++ {
				if !bytes.Equal(got[k], want[k]) {
					t.Fatalf("payload %d changed, or is another: %x, want %x", k, got[k], want[k])
				}
			}
			spoil(got[i])
		}
		if !bytes.Equal(whole(handed), was) {
			t.Fatalf("%x became %x", was, whole(handed))
		}
		got = readAll(handed)
		spoil(handed)
		for k := range got {
			if !bytes.Equal(got[k], want[k]) {
				t.Fatalf("payload %d shares the text's memory", k)
			}
		}
	}
}

// DOC.md's rule 4: what a range tells may be changed, with its room, while it goes on.
func TestHuntToldMayBeChanged(t *testing.T) {
	for _, b := range lookedAt() {
		want := modelHunt(b)
		seq := frame.Hunt(b)
		for range 2 {
			i := 0
			for at, f := range seq {
				if at != want[i].at || !sameFrame(f, want[i].Frame) {
					t.Fatalf("%x: at %d %v, want %v", b, at, f, want[i])
				}
				spoil(f.Payload)
				i++
			}
			if i != len(want) {
				t.Fatalf("%x: %d told, want %d", b, i, len(want))
			}
		}
	}
}

// DOC.md's rule 4: a list that was answered may be written on, and no other list changes.
func TestSplitAnswersNewLists(t *testing.T) {
	want, forms := someFrames(41, 3)
	b := bytes.Join(forms, nil)
	first, _, _ := frame.Split(b)
	second, _, _ := frame.Split(b)
	all := second[:cap(second)]
	for i := range all {
		all[i] = api.Frame{Kind: -1}
	}
	if !sameFrames(first, want) {
		t.Error(first)
	}
}

// DOC.md's rule 8: what lies behind a text's length is not read, though it is the rest of a frame.
func TestReadEndsWithItsBytes(t *testing.T) {
	_, forms := someFrames(42, 2)
	b := bytes.Join(forms, nil)
	for end := range b {
		part, alone := b[:end], bytes.Clone(b[:end])
		_, want, fault := modelOpen(alone)
		if _, n, e := frame.Open(part); n != want || e != fault {
			t.Fatalf("%d bytes: %d, %d, want %d, %d", end, n, e, want, fault)
		}
		list, at, fault := modelSplit(alone)
		checkSplit(t, part, list, at, fault)
		checkHunt(t, part, modelHunt(alone)...)
	}
}
