package link_test

import (
	"math"
	"testing"

	"regatta/api"
	"regatta/link"
)

// P19.1: each number of nodes and of messages that a line may have: nothing waits on it.
func TestNew(t *testing.T) {
	for nodes := 1; nodes <= api.MaxWorkers+1; nodes++ {
		for most := 1; most <= api.MaxQueue; most++ {
			n := made(t, nodes, most)
			checkBytes(t, n, 0)
			for _, i := range []int{0, nodes - 1, nodes, nodes - 2} {
				checkNext(t, n, i, 0, false)
				checkWaits(t, n, 0, i, 0)
				checkWaits(t, n, i, nodes-1, 0)
			}
		}
	}
}

// P19.1: nothing waits in any row of a new line, and each of its rows has room for Most messages, and for no more.
func TestNewRows(t *testing.T) {
	for _, x := range [][2]int{{1, 1}, {1, 64}, {2, 1}, {2, 64}, {3, 2}, {65, 1}, {65, 2}} {
		nodes, most := x[0], x[1]
		p := newPair(t, nodes, most)
		p.check()
		for from := range nodes {
			for to := range nodes {
				for range most + 1 {
					want := api.OK
					switch {
					case from == to:
						want = api.ErrNode
					case p.n.Waits(from, to) == most:
						want = api.ErrFull
					}
					checkFault(t, p.n.Send(from, to, []byte("ab")), want)
				}
			}
		}
		checkBytes(t, p.n, 2*most*nodes*(nodes-1))
	}
}

// P19.1: numbers of nodes and of messages that no line has, each with all others.
func TestNewRefused(t *testing.T) {
	odd := func(most int) []int {
		return append(ends(), 0, most+1, most+2, math.MinInt+most, 1<<32+most)
	}
	checkRefused := func(nodes, most int) {
		t.Helper()
		if n, e := link.New(nodes, most); n != nil || e != api.ErrArg {
			t.Errorf("New(%d, %d): %v, %d", nodes, most, n, e)
		}
	}
	for _, nodes := range odd(65) {
		for _, most := range append(odd(64), 1, 2, 63, 64) {
			checkRefused(nodes, most)
		}
	}
	for _, nodes := range []int{1, 2, 64, 65} {
		for _, most := range odd(64) {
			checkRefused(nodes, most)
		}
	}
}

// DOC.md's rule 1: of a line that is nil, and of one that New did not make, each call answers ErrNil or nothing, whatever it is given, and does nothing.
func TestNoLine(t *testing.T) {
	for name, n := range map[string]*link.Net{"nil": nil, "plain": {}, "new": new(link.Net)} {
		for range 2 {
			for _, i := range append(ends(), 0, 1, 2) {
				for _, k := range append(ends(), 0, 1, 2) {
					checkNoLine(t, name, n, i, k)
				}
			}
		}
	}
}

func checkNoLine(t *testing.T, name string, n *link.Net, i, k int) {
	t.Helper()
	for _, b := range [][]byte{nil, []byte("a"), make([]byte, 65549)} {
		if e := n.Send(i, k, b); e != api.ErrNil {
			t.Errorf("%s: Send(%d, %d, %d bytes): %d", name, i, k, len(b), e)
		}
	}
	if b, e := n.Take(i, k, 0); b != nil || e != api.ErrNil {
		t.Errorf("%s: Take(%d, %d, 0): %q, %d", name, i, k, b, e)
	}
	if b, e := n.Take(0, i, k); b != nil || e != api.ErrNil {
		t.Errorf("%s: Take(0, %d, %d): %q, %d", name, i, k, b, e)
	}
	for what, e := range map[string]api.Errno{
		"Drop(i, k, 0)":      n.Drop(i, k, 0),
		"Drop(0, i, k)":      n.Drop(0, i, k),
		"Double(i, k, 0)":    n.Double(i, k, 0),
		"Double(0, i, k)":    n.Double(0, i, k),
		"Flip(i, k, 0, 0)":   n.Flip(i, k, 0, 0),
		"Flip(0, 1, i, k)":   n.Flip(0, 1, i, k),
		"Flip(-1, -1, i, k)": n.Flip(-1, -1, i, k),
	} {
		if e != api.ErrNil {
			t.Errorf("%s: %s of %d and %d: %d", name, what, i, k, e)
		}
	}
	checkWaits(t, n, i, k, 0)
	checkNext(t, n, i, 0, false)
	checkBytes(t, n, 0)
}

// P19.1: two lines are apart from one another.
func TestLinesApart(t *testing.T) {
	a, b := made(t, 3, 2), made(t, 2, 3)
	sendAll(t, a, 0, 1, "a", "b")
	checkFault(t, a.Send(0, 1, []byte("c")), api.ErrFull)
	checkRow(t, b, 0, 1)
	checkBytes(t, b, 0)
	checkNext(t, b, 1, 0, false)
	checkFault(t, b.Drop(0, 1, 0), api.ErrPlace)
	sendAll(t, b, 0, 1, "x", "y", "z")
	checkFault(t, b.Send(0, 2, nil), api.ErrNode)
	sendAll(t, a, 0, 2, "d")
	must(t, b.Flip(0, 1, 0, 0))
	must(t, b.Drop(0, 1, 1))
	checkRow(t, a, 0, 1, "a", "b")
	checkRow(t, a, 0, 2, "d")
	checkRow(t, b, 0, 1, "y", "z")
	must(t, b.Double(0, 1, 0))
	must(t, a.Drop(0, 1, 0))
	checkRow(t, a, 0, 1, "b")
	checkRow(t, b, 0, 1, "y", "z", "y")
	checkBytes(t, a, 2)
	checkBytes(t, b, 3)
	checkBytes(t, made(t, 2, 3), 0)
}

// The chapter's example.
func TestExample(t *testing.T) {
	n := made(t, 2, 1)
	must(t, n.Send(0, 1, []byte("a")))
	checkFault(t, n.Send(0, 1, []byte("b")), api.ErrFull)
	checkTake(t, n, 0, 1, 0, "a", api.OK)
	checkFault(t, n.Send(1, 1, []byte("a")), api.ErrNode)
}
