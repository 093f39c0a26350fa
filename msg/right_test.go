package msg_test

import (
	"bytes"
	"math"
	"slices"
	"strings"
	"testing"

	"regatta/api"
)

// P14.1: one message of each of the eight kinds.
func TestRightOfEachKind(t *testing.T) {
	for i, m := range middles() {
		if m.Kind != i+1 {
			t.Fatal(m)
		}
		checkRight(t, m)
	}
}

// P14.1: a kind that is none isn't right, whichever fields it has.
func TestRightOfOtherKinds(t *testing.T) {
	kinds := append([]int{0, 9, 10, 127, 128, 254, 255, 256, 257, 264, 1<<16 + 1, math.MaxInt}, oddNumbers()...)
	for _, kind := range kinds {
		checkWrong(t, api.Message{Kind: kind})
		for _, m := range middles() {
			m.Kind = kind
			checkWrong(t, m)
		}
	}
}

// P14.1: a message of one kind, called another: it is right where the other kind uses all that isn't 0, and what else it uses may be 0 (MJoin's as MFetch's).
func TestRightOfAnotherKind(t *testing.T) {
	as := map[int][]int{api.MJoin: {api.MJoin, api.MLeave, api.MFetch}, api.MTell: {api.MTell}, api.MFetch: {api.MFetch}, api.MPart: {api.MPart}, api.MDelta: {api.MDelta}, api.MAck: {api.MAck}, api.MResend: {api.MResend, api.MAck}, api.MLeave: {api.MLeave, api.MJoin, api.MFetch}}
	for _, m := range middles() {
		for kind := 1; kind <= 8; kind++ {
			other := m
			other.Kind = kind
			if slices.Contains(as[m.Kind], kind) {
				checkRight(t, other)
			} else {
				checkWrong(t, other)
			}
		}
	}
}

// P14.1: each field that a kind uses, at both ends of its range, and one beyond each of them; and far beyond.
func TestRightAtTheEnds(t *testing.T) {
	for _, m := range middles() {
		for _, name := range namesOf(m.Kind) {
			if name == "Data" {
				continue
			}
			least, most := endsOf(m, name)
			for _, n := range []int{least, least + 1, most - 1, most} {
				checkRight(t, with(m, name, n))
			}
			for _, n := range append([]int{least - 1, most + 1, most + 2}, oddNumbers()...) {
				checkWrong(t, with(m, name, n))
			}
		}
	}
}

// P14.1: the very ends of the chapter, for each kind that uses the field.
func TestRightAtTheNamedEnds(t *testing.T) {
	ends := []struct {
		name         string
		right, wrong []int
	}{
		{"From", []int{1, 2, 63, 64}, []int{-1, 0, 65, 66, 128}},
		{"Inc", []int{0, 1, 2147483646, 2147483647}, []int{-1, 2147483648, 4294967295, 4294967296}},
		{"Round", []int{0, 1, 255, 256}, []int{-1, 257, 258, 512}},
		{"H", []int{1, 2, 63, 64}, []int{-1, 0, 65, 66, 128}},
	}
	for _, e := range ends {
		for _, m := range middles() {
			if !uses(m.Kind, e.name) {
				continue
			}
			for _, n := range e.right {
				checkRight(t, with(m, e.name, n))
			}
			for _, n := range e.wrong {
				checkWrong(t, with(m, e.name, n))
			}
		}
	}
}

// P14.1: a part is below how many there are, where that is said, and below MaxParts where it isn't.
func TestRightOfParts(t *testing.T) {
	for _, kind := range []int{api.MPart, api.MDelta} {
		m := middles()[kind-1]
		for _, parts := range []int{1, 2, 3, 100, 1023, 1024} {
			m.Parts = parts
			for _, part := range []int{0, parts / 2, parts - 1} {
				checkRight(t, with(m, "Part", part))
			}
			for _, part := range []int{-1, parts, parts + 1, 1024, 1025} {
				checkWrong(t, with(m, "Part", part))
			}
		}
		for _, parts := range []int{-1, 0, 1025, 2048} {
			m.Parts = parts
			for _, part := range []int{-2, -1, 0, 1, 1023, 1024, 1025, 2047} {
				checkWrong(t, with(m, "Part", part))
			}
		}
	}
	for _, kind := range []int{api.MFetch, api.MAck} {
		m := middles()[kind-1]
		for _, part := range []int{0, 1, 1022, 1023} {
			checkRight(t, with(m, "Part", part))
		}
		for _, part := range []int{-1, 1024, 1025} {
			checkWrong(t, with(m, "Part", part))
		}
	}
	tell := middles()[api.MTell-1]
	for _, parts := range []int{1, 2, 1023, 1024} {
		checkRight(t, with(tell, "Parts", parts))
	}
	for _, parts := range []int{-1, 0, 1025} {
		checkWrong(t, with(tell, "Parts", parts))
	}
}

// P14.1: each field that a kind doesn't use is 0, or it isn't right.
func TestRightOfFieldsThatAreNotUsed(t *testing.T) {
	for _, m := range middles() {
		for _, name := range strings.Fields(numbered) {
			if uses(m.Kind, name) {
				continue
			}
			for _, n := range append([]int{1, 2, 64, 1024}, oddNumbers()...) {
				checkWrong(t, with(m, name, n))
			}
		}
	}
}

// P14.1: Data of none, of one byte, of as many as may be, and of one more; and Data where the kind has none.
func TestRightOfData(t *testing.T) {
	for _, m := range middles() {
		for _, none := range [][]byte{nil, {}, make([]byte, 0, 10)} {
			m.Data = none
			checkRight(t, m)
		}
		for _, n := range []int{1, 2, 127, 128, 16383, 16384, most - 1, most, most + 1, most + 2, 2 * most, 2*most + 1, 3 * most} {
			m.Data = bytes.Repeat([]byte{byte(n)}, n)
			if uses(m.Kind, "Data") && n <= 32768 {
				checkRight(t, m)
			} else {
				checkWrong(t, m)
			}
		}
	}
}

// P14.1: the longest messages that may be, all numbers at their upper ends.
func TestRightOfTheLongest(t *testing.T) {
	r := shuffled(1)
	data := textOf(r, most)
	checkRight(t, api.Message{Kind: api.MPart, Round: 256, Part: 1023, Parts: 1024, Data: data})
	checkRight(t, api.Message{Kind: api.MDelta, From: 64, Inc: mostInc, Round: 256, Part: 1023, Parts: 1024, Data: data})
}

// P14.1: a kind with all numbers at some of their ends or one beyond, in every way at once.
func TestRightOfAllEndsAtOnce(t *testing.T) {
	choices := map[string][]int{"From": {0, 1, 64, 65}, "Inc": {-1, 0, mostInc, mostInc + 1}, "Round": {-1, 0, 256, 257}, "H": {0, 1, 64, 65}, "Part": {-1, 0, 1, 1023, 1024}, "Parts": {0, 1, 2, 1024, 1025}}
	for kind := 0; kind <= 9; kind++ {
		list := []api.Message{{Kind: kind}}
		for _, name := range strings.Fields(numbered) {
			var longer []api.Message
			for _, m := range list {
				for _, n := range choices[name] {
					if uses(kind, name) || n == 0 {
						longer = append(longer, with(m, name, n))
					}
				}
			}
			if len(longer) > 0 {
				list = longer
			}
		}
		for _, m := range list {
			checkAny(t, m)
			checkBytes(t, formOf(m))
		}
	}
}
