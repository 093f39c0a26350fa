package link_test

import (
	"math/bits"
	"testing"

	"regatta/api"
)

// P19.4: for each set of nodes from which messages wait for a node, Next is the least.
func TestNextOfEachSet(t *testing.T) {
	const nodes = 6
	for to := range nodes {
		for set := range uint(1 << nodes) {
			if set>>to&1 == 1 {
				continue
			}
			n := made(t, nodes, 2)
			for from := nodes - 1; from >= 0; from-- {
				if set>>from&1 == 1 {
					sendAll(t, n, from, to, "", "b")
				}
			}
			for left := set; left != 0; left &= left - 1 {
				least := bits.TrailingZeros(left)
				checkNext(t, n, to, least, true)
				must(t, n.Drop(least, to, 0))
				checkNext(t, n, to, least, true)
				checkTake(t, n, least, to, 0, "b", api.OK)
			}
			checkNext(t, n, to, 0, false)
		}
	}
}

// P19.4: what waits for a node is no other one's, and what it sent itself isn't its own.
func TestNextOfAnother(t *testing.T) {
	n := made(t, 65, 1)
	sendAll(t, n, 64, 3, "")
	for to := range 65 {
		if to == 3 {
			checkNext(t, n, to, 64, true)
		} else {
			checkNext(t, n, to, 0, false)
		}
	}
	sendAll(t, n, 3, 64, "")
	sendAll(t, n, 0, 64, "")
	checkNext(t, n, 3, 64, true)
	checkNext(t, n, 64, 0, true)
	checkNext(t, n, 0, 0, false)
	must(t, n.Drop(0, 64, 0))
	checkNext(t, n, 64, 3, true)
}

// P19.4: no node: 0 and false.
func TestNextOfNoNode(t *testing.T) {
	for _, nodes := range []int{1, 2, 64, 65} {
		n := made(t, nodes, 1)
		for from := range nodes {
			for to := range nodes {
				if from != to {
					sendAll(t, n, from, to, "a")
				}
			}
		}
		for _, to := range append(ends(), nodes, nodes+1) {
			checkNext(t, n, to, 0, false)
		}
		if nodes == 1 {
			checkNext(t, n, 0, 0, false)
		}
	}
}

// P19.2, P19.4: Waits, Next and Bytes behind each call, those that are refused too.
func TestCounts(t *testing.T) {
	p := newPair(t, 3, 2)
	p.send(2, 1, []byte("abc"))
	p.send(2, 1, nil)
	p.send(2, 1, []byte("full"))
	p.double(2, 1, 0)
	p.send(0, 1, make([]byte, 65548))
	p.send(0, 1, make([]byte, 65549))
	p.send(1, 1, []byte("self"))
	p.send(3, 1, []byte("none"))
	p.double(0, 1, 0)
	p.flip(0, 1, 1, 8*65548-1)
	p.flip(0, 1, 1, 8*65548)
	p.flip(2, 1, 1, 0)
	p.take(0, 1, 2)
	p.drop(0, 1, 2)
	p.drop(0, 1, 0)
	p.take(2, 1, 0)
	p.double(2, 1, 0)
	p.take(0, 1, 0)
	p.take(0, 1, 0)
	p.drop(2, 1, 1)
	p.drop(2, 1, 0)
	p.drop(2, 1, 0)
	p.double(2, 1, 0)
	checkBytes(t, p.n, 0)
}

// P19.4: Bytes of lines that are full: as many as waited at most.
func TestBytesOfFullRows(t *testing.T) {
	n := made(t, 65, 64)
	text := make([]byte, 65548)
	for from := range 65 {
		to := (from + 1) % 65
		must(t, n.Send(from, to, text))
		for range 63 {
			must(t, n.Double(from, to, 0))
		}
		checkFault(t, n.Double(from, to, 0), api.ErrFull)
		checkBytes(t, n, (from+1)*64*65548)
	}
}
