package rand_test

import (
	"math"
	"math/big"

	"regatta/api"
)

// The tests hold the package against the chapter's rules made of whole numbers that have no range, and against numbers that were reckoned outside of it.

const (
	most  = math.MaxInt
	least = math.MinInt
	ones  = math.MaxUint64
)

// edgeInts are numbers at which signs, halves and ends turn.
func edgeInts() []int {
	return []int{0, 1, 2, 3, -1, -2, 1023, 1024, 1<<32 - 1, 1 << 32, -1 << 32, most - 1, most, least, least + 1}
}

// keys have noughts, numbers below 0 and both ends in each of their places.
func keys() []api.Key {
	list := []api.Key{{Seed: 7, A: 1, B: 2, C: 3}, {Seed: 7, A: 3, B: 2, C: 1}, {Seed: 7, A: -1, B: -2, C: -3}}
	for _, seed := range []uint64{0, 1, 1<<63 - 1, 1 << 63, ones - 1, ones} {
		list = append(list, api.Key{Seed: seed}, api.Key{Seed: seed, A: most, B: least, C: most}, api.Key{Seed: seed, A: least, B: most, C: least})
	}
	for _, n := range []int{1, -1, most, least} {
		list = append(list, api.Key{A: n}, api.Key{B: n}, api.Key{C: n}, api.Key{A: n, B: n, C: n})
	}
	return list
}

func bigOf(n int) *big.Int { return big.NewInt(int64(n)) }

func bigOfWord(w uint64) *big.Int { return new(big.Int).SetUint64(w) }

// cut is n as 64 bits without a sign.
func cut(n *big.Int) *big.Int { return new(big.Int).Mod(n, new(big.Int).Lsh(big.NewInt(1), 64)) }

func times(a, b *big.Int) *big.Int { return cut(new(big.Int).Mul(a, b)) }

func plus(a, b *big.Int) *big.Int { return cut(new(big.Int).Add(a, b)) }

func either(a, b *big.Int) *big.Int { return new(big.Int).Xor(cut(a), cut(b)) }

// folded is x ^ (x >> n).
func folded(x *big.Int, n uint) *big.Int { return either(x, new(big.Int).Rsh(x, n)) }

func stirOf(x *big.Int) *big.Int {
	y := times(folded(x, 32), bigOfWord(11400714819323198549))
	z := times(folded(y, 29), bigOfWord(15241094284759029579))
	return folded(z, 32)
}

func rootOf(k api.Key) *big.Int {
	w := stirOf(plus(bigOfWord(k.Seed), bigOfWord(7046029254386353131)))
	for _, n := range []int{k.A, k.B, k.C} {
		w = stirOf(plus(either(w, bigOf(n)), bigOfWord(14029467366897019727)))
	}
	return w
}

func wordOf(k api.Key, i int) *big.Int {
	return stirOf(either(rootOf(k), times(bigOf(i), bigOfWord(11400714819323198485))))
}

func belowOf(k api.Key, i, n int) int {
	if n < 1 {
		return 0
	}
	product := new(big.Int).Mul(wordOf(k, i), bigOf(n))
	return int(product.Rsh(product, 64).Int64())
}

func partOf(k api.Key, i int) api.Fix {
	return api.Fix(new(big.Int).Rsh(wordOf(k, i), 32).Int64())
}

// betweenOf is what Between answers with such a part.
func betweenOf(part, low, high api.Fix) api.Fix {
	if high <= low {
		return low
	}
	more := new(big.Int).Sub(big.NewInt(int64(high)), big.NewInt(int64(low)))
	more.Mul(more, big.NewInt(int64(part)))
	more.Rsh(more, 32)
	return api.Fix(more.Add(more, big.NewInt(int64(low))).Int64())
}

// inverse is the number of 64 bits that times an odd n makes 1.
func inverse(n uint64) uint64 {
	x := n
	for range 6 {
		x *= 2 - n*x
	}
	return x
}

// placeWith is the place at which a key's word is w: a stir can be taken back, and so can a place's factor.
func placeWith(k api.Key, w uint64) int {
	z := w ^ w>>32
	y := z * inverse(15241094284759029579)
	y = y ^ y>>29 ^ y>>58
	x := y * inverse(11400714819323198549)
	x ^= x >> 32
	return int((x ^ rootOf(k).Uint64()) * inverse(11400714819323198485))
}
