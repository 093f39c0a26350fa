package link_test

import (
	"slices"
	"testing"

	"regatta/api"
	"regatta/link"
)

// P19.2: Take and Drop of each message of rows of each length: it waits no more, and the others stay in their order.
func TestTakeEach(t *testing.T) {
	for waits := 1; waits <= 6; waits++ {
		for i := range waits {
			texts := []string{"first", "b", "", "dd", "e", "last"}[:waits]
			rest := slices.Concat(texts[:i], texts[i+1:])
			n := made(t, 2, 6)
			sendAll(t, n, 1, 0, texts...)
			sum := n.Bytes()
			checkTake(t, n, 1, 0, i, texts[i], api.OK)
			checkRow(t, n, 1, 0, rest...)
			checkBytes(t, n, sum-len(texts[i]))
			n = made(t, 2, 6)
			sendAll(t, n, 1, 0, texts...)
			must(t, n.Drop(1, 0, i))
			checkRow(t, n, 1, 0, rest...)
			checkBytes(t, n, sum-len(texts[i]))
		}
	}
}

// P19.2: a row that is emptied, by Take or by Drop, from either end, and filled again, as often as one likes.
func TestEmptied(t *testing.T) {
	n := made(t, 2, 3)
	for k := range 40 {
		sendAll(t, n, 0, 1, "a", "b", "c")
		checkFault(t, n.Send(0, 1, nil), api.ErrFull)
		checkNext(t, n, 1, 0, true)
		for left := 2; left >= 0; left-- {
			i, text := 0, "abc"[2-left:3-left]
			if k%2 == 1 {
				i, text = left, "abc"[left:left+1]
			}
			if k&2 == 0 {
				must(t, n.Drop(0, 1, i))
			} else {
				checkTake(t, n, 0, 1, i, text, api.OK)
			}
			checkWaits(t, n, 0, 1, left)
			checkBytes(t, n, left)
			checkNext(t, n, 1, 0, left > 0)
			checkNoMessage(t, n, left)
		}
	}
}

// checkNoMessage sees to it that behind so many messages no more waits in the row from 0 to 1.
func checkNoMessage(t *testing.T, n *link.Net, waits int) {
	t.Helper()
	for _, i := range append(ends(), waits, waits+1, 64) {
		checkTake(t, n, 0, 1, i, "", api.ErrPlace)
		checkFault(t, n.Drop(0, 1, i), api.ErrPlace)
		checkFault(t, n.Double(0, 1, i), api.ErrPlace)
		for _, bit := range []int{0, -1, 8, 1 << 40} {
			checkFault(t, n.Flip(0, 1, i, bit), api.ErrPlace)
		}
	}
	checkWaits(t, n, 0, 1, waits)
}

// P19.2: an i-th message that there isn't: in a row in which none ever waited, in one with one message, with some, and in one that is full, where it comes ahead of ErrFull.
func TestNoMessage(t *testing.T) {
	for waits := range 4 {
		n := made(t, 2, 3)
		sendAll(t, n, 1, 0, "x", "y", "z")
		sendAll(t, n, 0, 1, []string{"", "b", "cc"}[:waits]...)
		checkNoMessage(t, n, waits)
		checkRow(t, n, 0, 1, []string{"", "b", "cc"}[:waits]...)
		checkRow(t, n, 1, 0, "x", "y", "z")
	}
}

// P19.2: a message that was taken or dropped is not found any more at its place, but the one behind it.
func TestTakeTwice(t *testing.T) {
	n := made(t, 2, 4)
	sendAll(t, n, 0, 1, "a", "b", "c", "d")
	checkTake(t, n, 0, 1, 1, "b", api.OK)
	checkTake(t, n, 0, 1, 1, "c", api.OK)
	must(t, n.Drop(0, 1, 1))
	checkTake(t, n, 0, 1, 1, "", api.ErrPlace)
	checkFault(t, n.Drop(0, 1, 1), api.ErrPlace)
	checkRow(t, n, 0, 1, "a")
}
