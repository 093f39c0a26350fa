package link_test

import (
	"math/rand/v2"
	"testing"

	"regatta/api"
	"regatta/link"
)

// anyInt is any number, most often a small one.
func anyInt(r *rand.Rand, most int) int {
	switch r.IntN(20) {
	case 0:
		return int(r.Uint64())
	case 1:
		return int(r.Uint64()) >> r.IntN(64)
	case 2:
		return ends()[r.IntN(len(ends()))]
	case 3:
		return []int{-1, most, most + 1}[r.IntN(3)]
	}
	return r.IntN(most)
}

// anyText is a message, now and then none, now and then about as long as may be.
func anyText(r *rand.Rand) []byte {
	switch r.IntN(60) {
	case 0:
		return make([]byte, 65546+r.IntN(5))
	case 1, 2, 3, 4, 5:
		return nil
	}
	return textOf(r, r.IntN(6))
}

// act makes one call of a pair.
func act(p pair, r *rand.Rand, nodes, most int) {
	p.t.Helper()
	from, to, i := anyInt(r, nodes), anyInt(r, nodes), anyInt(r, most+1)
	switch r.IntN(8) {
	case 0:
		p.take(from, to, i)
	case 1:
		p.drop(from, to, i)
	case 2, 3:
		p.double(from, to, i)
	case 4:
		p.flip(from, to, i, anyInt(r, 30))
	default:
		p.send(from, to, anyText(r))
	}
}

// P19.2 to P19.5: any order of calls with any arguments, held against the model behind each call.
func TestAnyCalls(t *testing.T) {
	r := shuffled(10)
	for range 1200 {
		nodes, most := 1+r.IntN(4), 1+r.IntN(6)
		p := newPair(t, nodes, most)
		for k := range 1 + r.IntN(60) {
			act(p, r, nodes, most)
			if k%16 == 15 {
				p.checkTexts()
			}
		}
		p.checkTexts()
	}
}

// P19.2 to P19.5: a line as great as there may be, the rows of which fill.
func TestAnyCallsOfTheGreatest(t *testing.T) {
	r := shuffled(11)
	p := newPair(t, api.MaxWorkers+1, api.MaxQueue)
	for range 1200 {
		from := []int{0, 63, 64}[r.IntN(3)]
		to := []int{0, 1, 64}[r.IntN(3)]
		if p.m.noNode(from, to) {
			continue
		}
		must(t, p.m.send(from, to, []byte{byte(from), byte(to)}))
		must(t, p.n.Send(from, to, []byte{byte(from), byte(to)}))
		if p.n.Waits(from, to) == api.MaxQueue {
			i := r.IntN(api.MaxQueue)
			p.double(from, to, i)
			p.send(from, to, nil)
			p.drop(from, to, i)
		}
	}
	p.checkTexts()
}

// P19.2 to P19.5: all orders of up to four calls that matter, on a line of three nodes with two messages a row.
func TestAllShortOrders(t *testing.T) {
	calls := []func(p pair){
		func(p pair) { p.send(0, 1, []byte("a")) },
		func(p pair) { p.send(0, 1, nil) },
		func(p pair) { p.send(1, 0, []byte("bc")) },
		func(p pair) { p.send(2, 1, []byte("d")) },
		func(p pair) { p.take(0, 1, 0) },
		func(p pair) { p.take(0, 1, 1) },
		func(p pair) { p.drop(0, 1, 0) },
		func(p pair) { p.drop(2, 1, 0) },
		func(p pair) { p.double(0, 1, 0) },
		func(p pair) { p.double(0, 1, 1) },
		func(p pair) { p.flip(0, 1, 0, 0) },
		func(p pair) { p.flip(0, 1, 1, 7) },
	}
	orders := [][]int{{}}
	for from := 0; from < len(orders); from++ {
		order := orders[from]
		p := newPair(t, 3, 2)
		for _, k := range order {
			calls[k](p)
		}
		p.checkTexts()
		if len(order) == 4 {
			continue
		}
		for k := range calls {
			orders = append(orders, append(order[:len(order):len(order)], k))
		}
	}
}

// P19.1: New with any arguments, and calls of what it answers.
func TestAnyNew(t *testing.T) {
	r := shuffled(12)
	for range 20000 {
		nodes, most := anyInt(r, 67), anyInt(r, 66)
		n, e := link.New(nodes, most)
		if nodes < 1 || nodes > 65 || most < 1 || most > 64 {
			if n != nil || e != api.ErrArg {
				t.Fatalf("New(%d, %d): %v, %d", nodes, most, n, e)
			}
			continue
		}
		checkFault(t, e, api.OK)
		if nodes == 1 {
			checkFault(t, n.Send(0, 0, nil), api.ErrNode)
			continue
		}
		for range most {
			must(t, n.Send(nodes-1, 0, nil))
		}
		checkFault(t, n.Send(nodes-1, 0, nil), api.ErrFull)
		checkFault(t, n.Send(nodes, 0, nil), api.ErrNode)
		checkNext(t, n, 0, nodes-1, true)
	}
}

// FuzzCalls takes any bytes for calls, and holds the line against the model behind each.
func FuzzCalls(f *testing.F) {
	f.Add([]byte("\x00\x01\x00abc\x03\x01\x00\x00\x00\x00\x04\x01\x01\x05\x00\x00\x01\x01\x00\x00\x00\x00"))
	f.Add([]byte("\x00\x12\x00abc\x00\x02\x00xyz\x02\x12\x00\x00\x00\x00\x01\x02\x01\x00\x00\x00"))
	f.Fuzz(func(t *testing.T, b []byte) {
		p := newPair(t, 3, 2)
		for ; len(b) >= 6; b = b[6:] {
			from, to, i := int(b[1]>>4)-1, int(b[1]&15)-1, int(int8(b[2]))
			switch b[0] % 5 {
			case 0:
				p.send(from, to, b[3:min(len(b), 3+int(b[2]))])
			case 1:
				p.take(from, to, i)
			case 2:
				p.drop(from, to, i)
			case 3:
				p.double(from, to, i)
			case 4:
				p.flip(from, to, i, int(int8(b[3])))
			}
		}
		p.checkTexts()
	})
}
