package link_test

import (
	"math"
	"slices"
	"testing"

	"regatta/api"
)

// P19.3: Double of each message of rows of each length: it waits once more, behind the others.
func TestDoubleEach(t *testing.T) {
	for waits := 1; waits <= 5; waits++ {
		for i := range waits {
			texts := []string{"first", "b", "", "dd", "last"}[:waits]
			n := made(t, 2, 6)
			sendAll(t, n, 0, 1, texts...)
			sum := n.Bytes()
			must(t, n.Double(0, 1, i))
			checkRow(t, n, 0, 1, append(slices.Clone(texts), texts[i])...)
			checkBytes(t, n, sum+len(texts[i]))
			checkRow(t, n, 1, 0)
		}
	}
}

// P19.3: Double until the row is full: then ErrFull, until there is room, and ErrPlace of a message that isn't there.
func TestDoubleUntilFull(t *testing.T) {
	for _, most := range []int{1, 2, 63, 64} {
		n := made(t, 2, most)
		sendAll(t, n, 0, 1, "ab")
		for k := 1; k < most; k++ {
			must(t, n.Double(0, 1, k/2))
			checkWaits(t, n, 0, 1, k+1)
		}
		for range 2 {
			checkFault(t, n.Double(0, 1, 0), api.ErrFull)
			checkFault(t, n.Double(0, 1, most-1), api.ErrFull)
			checkFault(t, n.Double(0, 1, most), api.ErrPlace)
			checkFault(t, n.Double(0, 1, -1), api.ErrPlace)
			checkWaits(t, n, 0, 1, most)
			checkBytes(t, n, 2*most)
		}
		must(t, n.Drop(0, 1, 0))
		checkBytes(t, n, 2*most-2)
	}
}

// P19.3: what is doubled lives apart from the elder one: either is flipped, taken or dropped alone.
func TestDoubledApart(t *testing.T) {
	n := made(t, 2, 4)
	sendAll(t, n, 0, 1, "aa")
	must(t, n.Double(0, 1, 0))
	must(t, n.Double(0, 1, 1))
	must(t, n.Flip(0, 1, 1, 0))
	checkRow(t, n, 0, 1, "aa", "`a", "aa")
	must(t, n.Flip(0, 1, 0, 9))
	checkRow(t, n, 0, 1, "ac", "`a", "aa")
	must(t, n.Double(0, 1, 0))
	must(t, n.Drop(0, 1, 0))
	checkRow(t, n, 0, 1, "`a", "aa", "ac")
	must(t, n.Flip(0, 1, 2, 15))
	checkTake(t, n, 0, 1, 0, "`a", api.OK)
	checkRow(t, n, 0, 1, "aa", "a\xe3")
}

// P19.3: each bit of a message: the lowest of each byte first, and no other bit is turned.
func TestFlipEach(t *testing.T) {
	for _, text := range []string{"\x00", "\xff", "\x00\x00\x00", "abc", "\xff\x00\xa5\x5a"} {
		for bit := range 8 * len(text) {
			want := []byte(text)
			want[bit/8] += []byte{1, 2, 4, 8, 16, 32, 64, 128}[bit%8]
			if text[bit/8]>>(bit%8)%2 == 1 {
				want[bit/8] -= []byte{2, 4, 8, 16, 32, 64, 128, 0}[bit%8]
			}
			n := made(t, 2, 3)
			sendAll(t, n, 0, 1, "ahead", text, "behind")
			must(t, n.Flip(0, 1, 1, bit))
			checkRow(t, n, 0, 1, "ahead", string(want), "behind")
			must(t, n.Flip(0, 1, 1, bit))
			checkRow(t, n, 0, 1, "ahead", text, "behind")
		}
	}
}

// P19.3: which bit of which byte is turned, of a few.
func TestFlipNamed(t *testing.T) {
	for _, x := range []struct {
		bit  int
		want string
	}{{0, "\x01\x00\x00"}, {1, "\x02\x00\x00"}, {7, "\x80\x00\x00"}, {8, "\x00\x01\x00"}, {12, "\x00\x10\x00"}, {15, "\x00\x80\x00"}, {16, "\x00\x00\x01"}, {23, "\x00\x00\x80"}} {
		n := made(t, 2, 1)
		sendAll(t, n, 1, 0, "\x00\x00\x00")
		must(t, n.Flip(1, 0, 0, x.bit))
		checkTake(t, n, 1, 0, 0, x.want, api.OK)
	}
}

// P19.3: bits that a message hasn't: ErrArg, and nothing is turned; but ErrPlace, where there is no such message.
func TestFlipRefused(t *testing.T) {
	for size := range 5 {
		text := string(textOf(shuffled(2), size))
		n := made(t, 2, 3)
		sendAll(t, n, 0, 1, "a longer one", text, "a longer one")
		for _, bit := range append(ends(), 8*size, 8*size+1, math.MinInt+8*size-1, 8*size+256) {
			checkFault(t, n.Flip(0, 1, 1, bit), api.ErrArg)
			checkFault(t, n.Flip(0, 1, 3, bit), api.ErrPlace)
			checkFault(t, n.Flip(0, 1, -1, bit), api.ErrPlace)
			checkFault(t, n.Flip(0, 0, 1, bit), api.ErrNode)
		}
		checkRow(t, n, 0, 1, "a longer one", text, "a longer one")
	}
}

// P19.3: of the longest message, the lowest and the highest bit, and one beyond each.
func TestFlipOfTheLongest(t *testing.T) {
	n := made(t, 2, 1)
	text := textOf(shuffled(3), 65548)
	must(t, n.Send(0, 1, text))
	checkFault(t, n.Flip(0, 1, 0, 8*65548), api.ErrArg)
	checkFault(t, n.Flip(0, 1, 0, -1), api.ErrArg)
	must(t, n.Flip(0, 1, 0, 8*65548-1))
	must(t, n.Flip(0, 1, 0, 0))
	must(t, n.Flip(0, 1, 0, 8*256))
	text[65547] ^= 128
	text[0] ^= 1
	text[256] ^= 1
	checkTake(t, n, 0, 1, 0, string(text), api.OK)
}
