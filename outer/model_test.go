package outer_test

import (
	"math/big"
	"math/rand/v2"

	"regatta/api"
)

// The tests hold the package against the chapter's rules in whole numbers without a range, and against numbers that were reckoned outside of the program.

const (
	one     = api.One
	half    = api.One / 2
	quarter = api.One / 4
	top     = api.MaxFix
	low     = api.MinFix
)

// model reckons as the chapter says, and counts what it holds.
type model struct{ held int }

func bigOf(a api.Fix) *big.Int { return big.NewInt(int64(a)) }

func product(a, b api.Fix) *big.Int { return new(big.Int).Mul(bigOf(a), bigOf(b)) }

// nearest is n / d, to the nearest whole number, and to the even one of two; d is above 0.
func nearest(n, d *big.Int) *big.Int {
	down, left := new(big.Int).DivMod(n, d, new(big.Int))
	side := left.Lsh(left, 1).Cmp(d)
	if side > 0 || side == 0 && down.Bit(0) == 1 {
		down.Add(down, big.NewInt(1))
	}
	return down
}

func (m *model) hold(n, d *big.Int) api.Fix {
	steps := nearest(n, d)
	if steps.IsInt64() {
		return api.Fix(steps.Int64())
	}
	m.held++
	if steps.Sign() < 0 {
		return low
	}
	return top
}

// plus is a + k · x, exact, and then held.
func (m *model) plus(a, k, x api.Fix) api.Fix {
	return m.hold(new(big.Int).Add(product(a, one), product(k, x)), bigOf(one))
}

// less is a - k · x, exact, and then held.
func (m *model) less(a, k, x api.Fix) api.Fix {
	return m.hold(new(big.Int).Sub(product(a, one), product(k, x)), bigOf(one))
}

func (m *model) step(k task) told {
	var out told
	for i, g := range k.g {
		b := m.plus(g, k.moment, k.o.B[i])
		d := m.plus(g, k.moment, b)
		out.o.B = append(out.o.B, b)
		out.o.P = append(out.o.P, m.less(k.o.P[i], k.rate, d))
	}
	return out
}

func (m *model) delta(start, end []api.Fix) []api.Fix {
	var out []api.Fix
	for i, s := range start {
		out = append(out, m.less(s, one, end[i]))
	}
	return out
}

// shuffled makes words without a pattern, the same ones each time.
func shuffled(seed uint64) *rand.Rand { return rand.New(rand.NewPCG(seed, 10)) }

// numberOf is a number of any length, or one at which steps, halves and ends turn.
func numberOf(r *rand.Rand) api.Fix {
	edges := []api.Fix{0, 0, 1, -1, 2, 3, -5, half - 1, half, half + 1, -half, one - 1, one, one + 1, -one, -2 * one, 1 << 47, 1 << 62, -1 << 62, top, top - 1, low, low + 1}
	if n := r.IntN(2 * len(edges)); n < len(edges) {
		return edges[n]
	}
	return api.Fix(r.Uint64()) >> r.IntN(64)
}

// vectorOf is a vector of n parts: of those above, or, so that results stay within the range too, of short ones.
func vectorOf(r *rand.Rand, n int) []api.Fix {
	down := []int{0, 2, 29}[r.IntN(3)]
	out := make([]api.Fix, n)
	for i := range out {
		out[i] = numberOf(r) >> down
	}
	return out
}

func rateOf(r *rand.Rand) api.Fix {
	usual := list(0, 1, half, one, one, 3006477107, top)
	if n := r.IntN(2 * len(usual)); n < len(usual) {
		return usual[n]
	}
	return max(numberOf(r), 0)
}

func momentOf(r *rand.Rand) api.Fix {
	usual := list(0, 0, 1, quarter, half, 3*quarter, 3865470566, one-2, one-1)
	if n := r.IntN(2 * len(usual)); n < len(usual) {
		return usual[n]
	}
	return api.Fix(r.Int64N(int64(one)))
}

// taskOf is a step that is right, of any kind.
func taskOf(r *rand.Rand) task {
	n := r.IntN(6)
	return task{rateOf(r), momentOf(r), outerOf(vectorOf(r, n), vectorOf(r, n)), vectorOf(r, n)}
}

// list is a vector written out; one of no part is empty, not nil.
func list(parts ...api.Fix) []api.Fix { return append([]api.Fix{}, parts...) }

// full is a vector of n parts that are all alike.
func full(n int, x api.Fix) []api.Fix {
	out := make([]api.Fix, n)
	for i := range out {
		out[i] = x
	}
	return out
}
