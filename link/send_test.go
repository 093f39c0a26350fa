package link_test

import (
	"testing"

	"regatta/api"
	"regatta/link"
)

// P19.2: messages of nothing, of one byte, of MaxPayload + 12 bytes, and of one more.
func TestSendSizes(t *testing.T) {
	n := made(t, 2, 6)
	most := string(textOf(shuffled(1), 65548))
	must(t, n.Send(0, 1, nil))
	must(t, n.Send(0, 1, []byte{}))
	sendAll(t, n, 0, 1, "a", most, most[1:])
	for range 2 {
		checkFault(t, n.Send(0, 1, append([]byte(most), 0)), api.ErrBig)
		checkFault(t, n.Send(1, 0, make([]byte, 65549)), api.ErrBig)
		checkFault(t, n.Send(1, 0, make([]byte, 1<<20)), api.ErrBig)
	}
	checkBytes(t, n, 2*65548)
	checkNext(t, n, 0, 0, false)
	checkRow(t, n, 1, 0)
	checkRow(t, n, 0, 1, "", "", "a", most, most[1:])
}

// P19.2: a row takes Most messages, be they empty or not, and none more, until one waits no more; another row has room all the time.
func TestSendUntilFull(t *testing.T) {
	for _, most := range []int{1, 2, 3, 63, 64} {
		n := made(t, 3, most)
		var texts []string
		for k := range most {
			checkWaits(t, n, 2, 1, k)
			texts = append(texts, string(make([]byte, k%3)))
			sendAll(t, n, 2, 1, texts[k])
		}
		sum := n.Bytes()
		for _, b := range [][]byte{nil, []byte("x"), make([]byte, 65548)} {
			checkFault(t, n.Send(2, 1, b), api.ErrFull)
			checkWaits(t, n, 2, 1, most)
			checkBytes(t, n, sum)
			checkNext(t, n, 1, 2, true)
		}
		checkRow(t, n, 2, 1, texts...)
		sendAll(t, n, 1, 2, "x")
		sendAll(t, n, 2, 0, "x")
		checkFault(t, n.Send(2, 1, nil), api.ErrFull)
		must(t, n.Drop(2, 1, most-1))
		sendAll(t, n, 2, 1, "last")
		checkFault(t, n.Send(2, 1, nil), api.ErrFull)
		checkRow(t, n, 2, 1, append(texts[:most-1], "last")...)
	}
}

// P19.2: of Send, ErrNode comes first, then ErrBig, then ErrFull; none changes anything.
func TestSendErrorsInOrder(t *testing.T) {
	n := made(t, 2, 1)
	sendAll(t, n, 0, 1, "a")
	big := make([]byte, 65549)
	for range 2 {
		checkFault(t, n.Send(0, 0, big), api.ErrNode)
		checkFault(t, n.Send(0, 2, big), api.ErrNode)
		checkFault(t, n.Send(-1, 1, big), api.ErrNode)
		checkFault(t, n.Send(0, 1, big), api.ErrBig)
		checkFault(t, n.Send(0, 1, big[:65548]), api.ErrFull)
		checkFault(t, n.Send(0, 1, nil), api.ErrFull)
		checkRow(t, n, 0, 1, "a")
		checkRow(t, n, 1, 0)
		checkBytes(t, n, 1)
	}
}

// noNodes are pairs of numbers of which one at least is no node of a line with so many, or which are the same.
func noNodes(nodes int) [][2]int {
	var list [][2]int
	for i := range nodes {
		list = append(list, [2]int{i, i})
	}
	for _, odd := range append(ends(), nodes, nodes+1) {
		list = append(list, [2]int{odd, odd}, [2]int{odd, nodes})
		for i := range nodes {
			list = append(list, [2]int{odd, i}, [2]int{i, odd})
		}
	}
	return list
}

// P19.2: each call that names two nodes, where one is no node, or both are the same: ErrNode, ahead of all other errors; none waits there, and nothing changes.
func TestNoNodes(t *testing.T) {
	for _, nodes := range []int{1, 2, 3, 65} {
		p := newPair(t, nodes, 1)
		if nodes > 1 {
			p.send(0, nodes-1, []byte("a"))
			p.send(1, 0, []byte("b"))
		}
		for _, x := range noNodes(nodes) {
			checkNoNodes(t, p.n, x[0], x[1])
		}
		p.checkTexts()
	}
}

func checkNoNodes(t *testing.T, n *link.Net, from, to int) {
	t.Helper()
	checkWaits(t, n, from, to, 0)
	checkFault(t, n.Send(from, to, []byte("a")), api.ErrNode)
	for _, i := range []int{0, -1, 1, 64} {
		checkTake(t, n, from, to, i, "", api.ErrNode)
		checkFault(t, n.Drop(from, to, i), api.ErrNode)
		checkFault(t, n.Double(from, to, i), api.ErrNode)
		checkFault(t, n.Flip(from, to, i, 0), api.ErrNode)
		checkFault(t, n.Flip(from, to, i, -1), api.ErrNode)
	}
}

// P19.2: rows lie apart: that from a node to another one, that back, and those of either with a third.
func TestRowsApart(t *testing.T) {
	const nodes = 9
	n := made(t, nodes, 3)
	text := func(from, to int) string { return string([]byte{byte('a' + from), byte('A' + to)}) }
	for from := range nodes {
		for to := range nodes {
			if from != to {
				sendAll(t, n, from, to, text(from, to), text(to, from))
			}
		}
	}
	must(t, n.Drop(3, 4, 0))
	must(t, n.Flip(4, 3, 1, 5))
	must(t, n.Double(0, 8, 1))
	for from := range nodes {
		for to := range nodes {
			switch [2]int{from, to} {
			case [2]int{to, to}:
				checkWaits(t, n, from, to, 0)
			case [2]int{3, 4}:
				checkRow(t, n, 3, 4, "eD")
			case [2]int{4, 3}:
				checkRow(t, n, 4, 3, "eD", "DE")
			case [2]int{0, 8}:
				checkRow(t, n, 0, 8, "aI", "iA", "iA")
			default:
				checkRow(t, n, from, to, text(from, to), text(to, from))
			}
		}
	}
}

// P19.5: where only Send and Take of the first one are called, in any order, each row gives what was sent, in its order; never do more than Most wait.
func TestRowsInOrder(t *testing.T) {
	for seed := range uint64(60) {
		r := shuffled(100 + seed)
		nodes, most := 2+r.IntN(4), 1+r.IntN(5)
		n := made(t, nodes, most)
		sent := map[[2]int][]string{}
		for range 600 {
			from, to := r.IntN(nodes), r.IntN(nodes)
			if from == to {
				continue
			}
			row := [2]int{from, to}
			waits := sent[row]
			if r.IntN(2) == 0 {
				text, want := textOf(r, r.IntN(4)), api.OK
				if len(waits) == most {
					want = api.ErrFull
				} else {
					sent[row] = append(waits, string(text))
				}
				checkFault(t, n.Send(from, to, text), want)
			} else if len(waits) == 0 {
				checkTake(t, n, from, to, 0, "", api.ErrPlace)
			} else {
				checkTake(t, n, from, to, 0, waits[0], api.OK)
				sent[row] = waits[1:]
			}
			checkWaits(t, n, from, to, len(sent[row]))
		}
	}
}
