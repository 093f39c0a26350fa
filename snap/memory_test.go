package snap_test

import (
	"bytes"
	"testing"

	"regatta/api"
)

// roomy is a text with room behind its bytes in which something stands.
func roomy(text []byte) []byte {
	return append(bytes.Clone(text), bytes.Repeat([]byte("behind"), 60)...)[:len(text)]
}

// spoil writes over a text and all its room.
func spoil(b []byte) {
	b = b[:cap(b)]
	for i := range b {
		b[i] ^= 0xff
	}
}

// DOC.md's rules 4 and 8: what is kept stays as it is, its room too; what stands in its room isn't kept, and the list isn't either.
func TestHandedToSave(t *testing.T) {
	for size := range 257 {
		d, s := fresh(t, 2)
		for n := 1; n <= 3; n++ {
			text := textOf(shuffled(uint64(size+1000*n)), size)
			handed := roomy(text)
			was := bytes.Clone(handed[:cap(handed)])
			checkSave(t, s, handed, n, api.OK)
			b, _, _ := s.Load()
			spoil(b)
			if !bytes.Equal(handed[:cap(handed)], was) {
				t.Fatalf("%q became %q", was, handed[:cap(handed)])
			}
			spoil(handed)
			checkLoad(t, s, text, n, api.OK)
			must(t, d.Crash(nil))
			checkLoad(t, s, text, n, api.OK)
			whole := imageOf(d)[n%2*384+128+size : n%2*384+128+(size+127)/128*128]
			if !bytes.Equal(whole, make([]byte, len(whole))) {
				t.Fatalf("behind a text of %d bytes: %q", size, whole)
			}
		}
	}
}

// DOC.md's rule 4: what isn't kept stays as it is too, when it is refused and when the disk goes down under it.
func TestHandedInVain(t *testing.T) {
	for armed := range 5 {
		d, s := fresh(t, 2)
		d.Arm(armed)
		for _, size := range []int{257, 200} {
			handed := roomy(textOf(shuffled(30), size))
			was := bytes.Clone(handed[:cap(handed)])
			s.Save(handed)
			if !bytes.Equal(handed[:cap(handed)], was) {
				t.Fatalf("%q became %q", was, handed[:cap(handed)])
			}
			spoil(handed)
		}
		must(t, d.Crash([]api.Fate{kept(), kept()}))
		if armed == 3 || armed == 4 {
			checkLoad(t, s, textOf(shuffled(30), 200), 1, api.OK)
		} else {
			checkLoad(t, s, nil, 0, api.ErrNone)
		}
	}
}

// DOC.md's rule 4: what is answered is memory of its own, its room too: a caller that changes it changes nothing of the disk's, and no other answer.
func TestAnswersAreNewMemory(t *testing.T) {
	for size := range 257 {
		d, s := fresh(t, 2)
		text := textOf(shuffled(uint64(size)), size)
		checkSave(t, s, text, 1, api.OK)
		image := imageOf(d)
		first, _, _ := s.Load()
		second, _, _ := s.Load()
		spoil(second)
		_ = append(second, "more"...)
		if !bytes.Equal(first, text) {
			t.Fatalf("%q became %q", text, first)
		}
		checkLoad(t, s, text, 1, api.OK)
		if !bytes.Equal(imageOf(d), image) {
			t.Fatal("the disk was changed by what was answered")
		}
		checkSave(t, s, []byte("another"), 2, api.OK)
		lay(t, d, 0, make([]byte, 6*128))
		if !bytes.Equal(first, text) {
			t.Fatalf("%q became %q as the disk went on", text, first)
		}
	}
}
