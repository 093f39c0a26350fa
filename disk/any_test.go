package disk_test

import (
	"math"
	"math/rand/v2"
	"testing"

	"regatta/api"
)

// anyFates are some fates, of kinds that there aren't too.
func anyFates(r *rand.Rand) []api.Fate {
	var list []api.Fate
	for range r.IntN(8) {
		f := api.Fate{Kind: r.IntN(3), Bytes: r.IntN(140) - 5}
		switch r.IntN(10) {
		case 0:
			f = oddFates()[r.IntN(len(oddFates()))]
		case 1:
			f.Bytes = int(r.Uint64())
		case 2:
			f.Bytes = r.IntN(4)
		}
		list = append(list, f)
	}
	return list
}

// anyBlock is a block's number, now and then of one that there isn't.
func anyBlock(r *rand.Rand, blocks int) int {
	if r.IntN(12) > 0 {
		return r.IntN(blocks)
	}
	return []int{-1, blocks, blocks + 1, math.MinInt, math.MaxInt, 1 << 32, int(r.Uint64())}[r.IntN(7)]
}

// anyText is a text, now and then noughts, now and then too long.
func anyText(r *rand.Rand) []byte {
	switch r.IntN(8) {
	case 0:
		return nil
	case 1:
		return make([]byte, r.IntN(129))
	case 2:
		return textOf(r, 126+r.IntN(5))
	case 3:
		return textOf(r, r.IntN(129))
	}
	return textOf(r, r.IntN(5))
}

// anyCount is what a disk is armed with.
func anyCount(r *rand.Rand) int {
	if r.IntN(8) == 0 {
		return []int{math.MinInt, math.MaxInt, -5, int(r.Uint64())}[r.IntN(4)]
	}
	return r.IntN(8) - 1
}

// P15.1 to P15.5: any order of calls with any arguments, held against the model behind each call.
func TestAnyCalls(t *testing.T) {
	r := shuffled(3)
	for range 1500 {
		p := newPair(t, 1+r.IntN(5))
		for range 1 + r.IntN(60) {
			switch r.IntN(10) {
			case 0, 1:
				p.flush()
			case 2:
				p.arm(anyCount(r))
			case 3:
				p.crash(anyFates(r)...)
			default:
				p.write(anyBlock(r, p.m.blocks), anyText(r))
			}
		}
	}
}

// P15.1 to P15.5: all orders of up to five calls that matter, on a disk of two blocks.
func TestAllShortOrders(t *testing.T) {
	calls := []func(p pair){
		func(p pair) { p.d.Write(0, []byte("ab")); p.m.write(0, []byte("ab")) },
		func(p pair) { p.d.Write(0, []byte("xyz")); p.m.write(0, []byte("xyz")) },
		func(p pair) { p.d.Write(0, nil); p.m.write(0, nil) },
		func(p pair) { p.d.Write(1, []byte("c")); p.m.write(1, []byte("c")) },
		func(p pair) { p.d.Write(2, nil); p.m.write(2, nil) },
		func(p pair) { p.d.Flush(); p.m.flush() },
		func(p pair) { p.d.Arm(0); p.m.arm(0) },
		func(p pair) { p.d.Arm(1); p.m.arm(1) },
		func(p pair) { p.d.Arm(-1); p.m.arm(-1) },
	}
	for _, fates := range [][]api.Fate{{kept()}, {torn(1), kept()}, {lost(), torn(2)}} {
		calls = append(calls, func(p pair) { p.d.Crash(fates); p.m.crash(fates) })
	}
	orders := [][]int{{}}
	for from := 0; from < len(orders); from++ {
		order := orders[from]
		p := newPair(t, 2)
		for _, k := range order {
			calls[k](p)
		}
		p.check()
		if len(order) == 5 {
			continue
		}
		for k := range calls {
			orders = append(orders, append(order[:len(order):len(order)], k))
		}
	}
}

// FuzzCalls takes any bytes for calls, and holds the disk against the model behind each.
func FuzzCalls(f *testing.F) {
	f.Add([]byte("\x00\x00ab\x01\x00\x00\x00\x00\x00xy\x03\x02\x01\x00"))
	f.Add([]byte("\x02\x01\x00\x00\x00\x01a\x00\x01\x00\x00\x00\x03\x01\x00\x00"))
	f.Fuzz(func(t *testing.T, b []byte) {
		p := newPair(t, 3)
		for ; len(b) >= 4 && len(p.m.past)+len(p.m.under) < 100; b = b[4:] {
			switch b[0] % 4 {
			case 0:
				p.write(int(int8(b[1]))%5, b[2:min(len(b), 2+int(b[1]))])
			case 1:
				p.flush()
			case 2:
				p.arm(int(int8(b[1])))
			case 3:
				p.crash(api.Fate{Kind: int(b[1]) % 4, Bytes: int(int8(b[2])) * 2}, api.Fate{Kind: int(b[3]) % 4, Bytes: int(b[2])})
			}
		}
	})
}
