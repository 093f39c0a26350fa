package frame_test

import (
	"bytes"
	"testing"

	"regatta/api"
	"regatta/frame"
)

// foundIn is a frame that stands at a place, by its form.
func foundIn(at int, form []byte) found {
	return found{at, api.Frame{Kind: int(form[3]), Payload: form[8 : len(form)-4]}}
}

// P13.4: where no frame is, nothing is told; and there is a function to range over.
func TestHuntOfNothing(t *testing.T) {
	checkHunt(t, nil)
	checkHunt(t, []byte{})
	checkHunt(t, make([]byte, 1000))
	for _, s := range []string{"R", "RG", "RG\x01", "RG\x01\x01", "RG\x01\x01\x00\x00\x00\x00", "RRRGGG\x01\x01\x01\x01", "RGRGRGRG\x01\x01RG\x01", "junk and more junk"} {
		checkHunt(t, []byte(s))
	}
	r := shuffled(30)
	for n := range 300 {
		checkHunt(t, textOf(r, n))
	}
}

// P13.4: frames one behind the other are all told, at their places.
func TestHuntOfFrames(t *testing.T) {
	for n := range 10 {
		_, forms := someFrames(31, n)
		var want []found
		at := 0
		for _, form := range forms {
			want = append(want, foundIn(at, form))
			at += len(form)
		}
		checkHunt(t, bytes.Join(forms, nil), want...)
	}
}

// P13.4: frames with junk ahead, between and behind, also such that looks like a frame's beginning, in all ways to put them.
func TestHuntOverJunk(t *testing.T) {
	a, b := formOf(1, []byte("a")), formOf(2, nil)
	junk := []string{"", "x", "R", "RG", "RG\x01", "RG\x01\x01", "RG\x01\x00", "RG\x02\x01\x00\x00", "RRG", "RG\x01\x01\x00\x00\x00", "RG\x01\x01\x00\x00\x00\x00", "RG\x01\x05\x09\x00\x00\x00", "RG\x01\x05\xff\xff\x00\x00", "RG\x01\x05\x01\x00\x01\x00", string(a[:len(a)-1])}
	for _, ahead := range junk {
		for _, between := range junk {
			for _, behind := range junk {
				text := bytes.Join([][]byte{[]byte(ahead), a, []byte(between), b, []byte(behind)}, nil)
				checkHunt(t, text, foundIn(len(ahead), a), foundIn(len(ahead)+len(a)+len(between), b))
			}
		}
	}
}

// P13.4: where Open lacks bytes it goes one byte further too, and finds what stands behind.
func TestHuntGoesOnWhereBytesLack(t *testing.T) {
	a := formOf(4, []byte("there"))
	for _, ahead := range []string{"RG\x01\x01\x00\x00\x01\x00", "RG\x01\x01\xff\x00\x00\x00RG\x01\x01\xff\x00\x00\x00", "RG\x01\x01\x12\x00\x00\x00"} {
		text := append([]byte(ahead), a...)
		checkFault(t, text, api.ErrShort)
		checkHunt(t, text, foundIn(len(ahead), a))
	}
}

// P13.4: a frame within another one's payload is not told, and that one is; where the outer one isn't right, or breaks off, the inner one is told.
func TestHuntOfAFrameWithinAnother(t *testing.T) {
	inner := formOf(7, []byte("inner"))
	for _, around := range []string{"", "x", "RG\x01"} {
		payload := bytes.Join([][]byte{[]byte(around), inner, []byte(around), inner}, nil)
		outer := formOf(8, payload)
		first, second := 8+len(around), 8+2*len(around)+len(inner)
		checkHunt(t, outer, foundIn(0, outer))
		checkHunt(t, append(bytes.Clone(outer), inner...), foundIn(0, outer), foundIn(len(outer), inner))
		checkHunt(t, outer[:len(outer)-1], foundIn(first, inner), foundIn(second, inner))
		checkHunt(t, outer[1:], foundIn(first-1, inner), foundIn(second-1, inner))
		for _, i := range []int{0, 1, 2, 3, 4, 7, len(outer) - 4, len(outer) - 1} {
			broken := bytes.Clone(outer)
			broken[i] ^= 0x80
			checkHunt(t, broken, foundIn(first, inner), foundIn(second, inner))
		}
	}
}

// P13.4: of two frames that share bytes the first is told, and where it isn't right the second.
func TestHuntOfFramesThatShareBytes(t *testing.T) {
	second := formOf(2, []byte("the second one"))
	first := formOf(1, append([]byte("ahead"), second[:9]...))
	sum := first[len(first)-4:]
	shared := append(bytes.Clone(first), second[13:]...)
	copy(second[9:], sum)
	second = formOf(2, second[8:len(second)-4])
	copy(shared[len(shared)-4:], second[len(second)-4:])
	checkOpened(t, shared[13:], 2, second[8:len(second)-4], len(second))
	checkHunt(t, shared, foundIn(0, first))
	shared[8] ^= 1
	checkHunt(t, shared, foundIn(13, second))
}

// P13.4: a frame at each place of a text, up to its very end.
func TestHuntAtEachPlace(t *testing.T) {
	r := shuffled(32)
	form := formOf(3, []byte("abc"))
	for n := range 200 {
		ahead := bytes.Repeat([]byte{byte(r.Uint32()) | 1, 0}, 100)[:n]
		checkHunt(t, append(bytes.Clone(ahead), form...), foundIn(n, form))
		checkHunt(t, append(append(bytes.Clone(ahead), form...), ahead...), foundIn(n, form))
	}
}

// P13.4: the longest frames, with junk about them.
func TestHuntOfLongestFrames(t *testing.T) {
	form := formOf(255, bytes.Repeat([]byte("RG\x01\x02"), api.MaxPayload/4))
	text := bytes.Join([][]byte{[]byte("RG"), form, []byte("x"), form}, nil)
	checkHunt(t, text, foundIn(2, form), foundIn(3+len(form), form))
	checkHunt(t, text[:len(text)-1], foundIn(2, form))
}

// DOC.md's rule 8: a range may be left anywhere: nothing more is told then, and the next range begins anew.
func TestHuntLeftEarly(t *testing.T) {
	_, forms := someFrames(33, 6)
	text := append([]byte("junk"), bytes.Join(forms, []byte("more junk"))...)
	want := modelHunt(text)
	seq := frame.Hunt(text)
	for stop := 1; stop <= len(want); stop++ {
		var got []found
		for at, f := range seq {
			if got = append(got, found{at, f}); len(got) == stop {
				break
			}
		}
		if !sameFound(got, want[:stop]) {
			t.Fatalf("left behind %d: %v", stop, got)
		}
		told := 0
		seq(func(int, api.Frame) bool {
			told++
			return told < stop
		})
		if told != stop {
			t.Fatalf("told %d, though it was left behind %d", told, stop)
		}
	}
	if got := gathered(seq); !sameFound(got, want) {
		t.Fatal(got)
	}
}

// DOC.md's rule 8: one range within another, over the same bytes.
func TestHuntWithinAHunt(t *testing.T) {
	_, forms := someFrames(34, 4)
	text := append([]byte("R"), bytes.Join(forms, []byte("R"))...)
	want := modelHunt(text)
	seq := frame.Hunt(text)
	var got []found
	for at, f := range seq {
		if inner := gathered(seq); !sameFound(inner, want) {
			t.Fatal(inner)
		}
		got = append(got, found{at, f})
	}
	if !sameFound(got, want) {
		t.Fatal(got)
	}
}

// P13.4: told is what was there as the range began, whatever becomes of the bytes meanwhile; the next range tells what they became.
func TestHuntWhileBytesChange(t *testing.T) {
	_, forms := someFrames(35, 5)
	was := bytes.Join(forms, []byte("RG"))
	want := modelHunt(was)
	other := bytes.Repeat(formOf(99, []byte("other")), 1+len(was)/17)[:len(was)]
	for change := range want {
		text := bytes.Clone(was)
		seq := frame.Hunt(text)
		var got []found
		for at, f := range seq {
			if len(got) == change {
				copy(text, other)
			}
			got = append(got, found{at, f})
		}
		if !sameFound(got, want) {
			t.Fatalf("changed at %d: %v", change, got)
		}
		if got := gathered(seq); !sameFound(got, modelHunt(other)) {
			t.Fatalf("behind the change at %d: %v", change, got)
		}
	}
}

// P13.4: a range tells what is there as it begins, not what was there as Hunt was called, nor in the range ahead of it.
func TestHuntOfBytesChangedBetweenRanges(t *testing.T) {
	a, b := formOf(1, []byte("first")), formOf(2, []byte("other"))
	text := bytes.Clone(a)
	seq := frame.Hunt(text)
	for _, now := range [][]byte{b, a, make([]byte, len(a)), b} {
		copy(text, now)
		if got := gathered(seq); !sameFound(got, modelHunt(now)) {
			t.Fatalf("%q: %v", now, got)
		}
	}
}
