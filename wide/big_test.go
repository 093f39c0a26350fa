package wide_test

import (
	"math/big"
	"testing"

	"regatta/api"
)

// The tests hold the package against the library's big numbers, which know no range.

type bigInt = big.Int

func bigInt64(n int64) *big.Int { return big.NewInt(n) }

func power(n int) *big.Int { return new(big.Int).Lsh(big.NewInt(1), uint(n)) }

func above(hi *big.Int, lo uint64) *big.Int {
	n := new(big.Int).Lsh(hi, 64)
	return n.Add(n, new(big.Int).SetUint64(lo))
}

func bigOf(a api.Wide) *big.Int { return above(big.NewInt(a.Hi), a.Lo) }

func bigOfLong(a api.Long) *big.Int { return above(above(big.NewInt(a.Top), a.Mid), a.Low) }

// wrapped is n brought into the range of whole numbers of so many bits.
func wrapped(n *big.Int, bits int) *big.Int {
	half := power(bits - 1)
	m := new(big.Int).Add(n, half)
	m.Mod(m, power(bits))
	return m.Sub(m, half)
}

// quotient is a / d, rounded: of the two whole numbers beside it the nearer one, or the even one.
func quotient(a, d *big.Int) *big.Int {
	q, left := new(big.Int).DivMod(a, d, new(big.Int)) // 0 <= left < |d|
	next := new(big.Int).Add(q, big.NewInt(int64(d.Sign())))
	switch new(big.Int).Lsh(left, 1).CmpAbs(d) {
	case -1:
		return q
	case 1:
		return next
	}
	if q.Bit(0) == 0 {
		return q
	}
	return next
}

func clampedBig(n *big.Int) (int64, bool) {
	switch {
	case n.IsInt64():
		return n.Int64(), false
	case n.Sign() < 0:
		return least, true
	}
	return most, true
}

func rootBig(n *big.Int) (int64, bool) {
	if n.Sign() < 0 {
		return 0, true
	}
	return clampedBig(new(big.Int).Sqrt(n))
}

func checkWide(t *testing.T, got api.Wide, want *big.Int, call string, args ...any) {
	t.Helper()
	if bigOf(got).Cmp(want) != 0 {
		t.Fatalf("%s%v = %v, want %v", call, args, bigOf(got), want)
	}
}

// mixer makes words without a pattern, the same ones each time.
type mixer uint64

func (m *mixer) next() uint64 {
	*m += 0x9e3779b97f4a7c15
	z := uint64(*m)
	z = (z ^ z>>30) * 0xbf58476d1ce4e5b9
	z = (z ^ z>>27) * 0x94d049bb133111eb
	return z ^ z>>31
}

// edgeWords are words in which sums, shifts and halves turn.
func edgeWords() []uint64 {
	return []uint64{0, 1, 2, 3, 5, 1<<32 - 1, 1 << 32, 1<<32 + 1, 1<<62 - 1, 1 << 62, 1<<62 + 1, 1<<63 - 1, 1 << 63, 1<<63 + 1, ones - 2, ones - 1, ones}
}

// int64s are the edges, and numbers of all lengths on both sides of 0.
func int64s() []int64 {
	var list []int64
	for _, w := range edgeWords() {
		list = append(list, int64(w))
	}
	m := mixer(1)
	for n := range 64 {
		x := int64(m.next() >> n)
		list = append(list, x, -x)
	}
	return list
}

func wides() []api.Wide {
	var list []api.Wide
	for _, hi := range edgeWords() {
		for _, lo := range edgeWords() {
			list = append(list, api.Wide{Hi: int64(hi), Lo: lo})
		}
	}
	m := mixer(2)
	for n := range 64 {
		list = append(list, api.Wide{Hi: int64(m.next()) >> n, Lo: m.next()}, api.Wide{Hi: int64(m.next() >> n), Lo: m.next() << n})
	}
	return list
}

func longs() []api.Long {
	var list []api.Long
	edges := []uint64{0, 1, 1<<62 - 1, 1 << 62, 1<<63 - 1, 1 << 63, ones - 1, ones}
	for _, top := range edges {
		for _, mid := range edges {
			for _, low := range edges {
				list = append(list, api.Long{Top: int64(top), Mid: mid, Low: low})
			}
		}
	}
	m := mixer(3)
	for n := range 64 {
		list = append(list,
			api.Long{Top: int64(m.next()) >> n, Mid: m.next(), Low: m.next()},
			api.Long{Top: int64(m.next() >> n), Mid: m.next(), Low: m.next() << n},
			api.Long{Mid: m.next() >> n, Low: m.next()})
	}
	return list
}
