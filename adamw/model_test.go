package adamw_test

import (
	"math/big"
	"math/rand/v2"

	"regatta/api"
)

// The tests hold the package against the chapter's rules in whole numbers without a range, and against numbers that were reckoned outside of the program.

const (
	one  = api.One
	half = api.One / 2
	top  = api.MaxFix
	low  = api.MinFix
)

// model reckons as the chapter says, and counts what it holds.
type model struct{ held int }

func bigOf(a api.Fix) *big.Int { return big.NewInt(int64(a)) }

func product(a, b api.Fix) *big.Int { return new(big.Int).Mul(bigOf(a), bigOf(b)) }

// nearest is n / d, to the nearest whole number, and to the even one of two; d is above 0.
func nearest(n, d *big.Int) *big.Int {
	down, left := new(big.Int).DivMod(n, d, new(big.Int))
	side := left.Lsh(left, 1).Cmp(d)
	if side > 0 || side == 0 && down.Bit(0) == 1 {
		down.Add(down, big.NewInt(1))
	}
	return down
}

func (m *model) hold(n, d *big.Int) api.Fix {
	steps := nearest(n, d)
	if steps.IsInt64() {
		return api.Fix(steps.Int64())
	}
	m.held++
	if steps.Sign() < 0 {
		return low
	}
	return top
}

func (m *model) mul(a, b api.Fix) api.Fix { return m.hold(product(a, b), bigOf(one)) }

func (m *model) add(a, b api.Fix) api.Fix {
	return m.hold(new(big.Int).Add(bigOf(a), bigOf(b)), big.NewInt(1))
}

func (m *model) sub(a, b api.Fix) api.Fix {
	return m.hold(new(big.Int).Sub(bigOf(a), bigOf(b)), big.NewInt(1))
}

// div is of a divisor above 0, as all of a step are.
func (m *model) div(a, b api.Fix) api.Fix { return m.hold(product(a, one), bigOf(b)) }

func (m *model) sqrt(a api.Fix) api.Fix {
	if a < 0 {
		m.held++
		return 0
	}
	return api.Fix(new(big.Int).Sqrt(product(a, one)).Int64())
}

// mean is beta of was, and One less beta of what is new.
func (m *model) mean(beta, was, news api.Fix) api.Fix {
	return m.hold(new(big.Int).Add(product(beta, was), product(one-beta, news)), bigOf(one))
}

func (m *model) rate(r api.Rates, t int) api.Fix {
	rate := r.Base
	if t <= r.Warm {
		rate = m.hold(product(r.Base, api.Fix(t)), big.NewInt(int64(r.Warm)))
	}
	for _, d := range r.Drops {
		if t >= d.At {
			rate = m.mul(rate, d.Factor)
		}
	}
	return rate
}

// bias is One less the t-th power. Far powers stay what they are: no power is above the one ahead.
func (m *model) bias(beta api.Fix, t int) api.Fix {
	power := one
	for range t {
		next := m.mul(power, beta)
		if next == power {
			break
		}
		power = next
	}
	return one - power
}

func (m *model) clip(g []api.Fix, most api.Fix) []api.Fix {
	if most == 0 {
		return g
	}
	sum := new(big.Int)
	for _, part := range g {
		sum.Add(sum, product(part, part))
	}
	length := m.hold(sum.Sqrt(sum), big.NewInt(1))
	if length <= most {
		return g
	}
	factor := m.div(most, length)
	var out []api.Fix
	for _, part := range g {
		out = append(out, m.mul(part, factor))
	}
	return out
}

func (m *model) step(k task) told {
	x, t := k.x, k.s.T+1
	rate, bias1, bias2 := m.rate(x.Rate, t), m.bias(x.Beta1, t), m.bias(x.Beta2, t)
	out := told{s: api.Adam{T: t}}
	for i, g := range m.clip(k.g, x.Clip) {
		mean := m.mean(x.Beta1, k.s.M[i], g)
		square := m.mean(x.Beta2, k.s.V[i], m.mul(g, g))
		a := m.div(mean, bias1)
		b := m.sqrt(m.div(square, bias2))
		w := m.add(m.div(a, m.add(b, x.Eps)), m.mul(x.Decay, k.p[i]))
		out.s.M, out.s.V = append(out.s.M, mean), append(out.s.V, square)
		out.p = append(out.p, m.sub(k.p[i], m.mul(rate, w)))
	}
	return out
}

// shuffled makes words without a pattern, the same ones each time.
func shuffled(seed uint64) *rand.Rand { return rand.New(rand.NewPCG(seed, 9)) }

// numberOf is a number of any length, or one at which steps, halves and ends turn.
func numberOf(r *rand.Rand) api.Fix {
	edges := []api.Fix{0, 0, 1, -1, 2, 3, half - 1, half, half + 1, -half, one - 1, one, one + 1, -one, -2 * one, 1 << 47, 1 << 48, top, top - 1, low, low + 1}
	if n := r.IntN(2 * len(edges)); n < len(edges) {
		return edges[n]
	}
	return api.Fix(r.Uint64()) >> r.IntN(64)
}

// vectorOf is a vector of n parts: of those above, or, so that results stay within the range too, of short ones.
func vectorOf(r *rand.Rand, n int) []api.Fix {
	down := []int{0, 24, 29}[r.IntN(3)]
	out := make([]api.Fix, n)
	for i := range out {
		out[i] = numberOf(r) >> down
	}
	return out
}

// above is any number that isn't below 0.
func above(r *rand.Rand) api.Fix { return max(numberOf(r), 0) }

func betaOf(r *rand.Rand) api.Fix {
	usual := []api.Fix{0, 1, half, 3865470566, 4290672329, one - 2, one - 1}
	if n := r.IntN(2 * len(usual)); n < len(usual) {
		return usual[n]
	}
	return api.Fix(r.Int64N(int64(one)))
}

func ratesOf(r *rand.Rand) api.Rates {
	out := api.Rates{Base: above(r), Warm: r.IntN(40)}
	at := 0
	for range r.IntN(4) {
		at += 1 + r.IntN(20)
		out.Drops = append(out.Drops, api.Drop{At: at, Factor: api.Fix(r.Int64N(int64(one) + 1))})
	}
	return out
}

func innerOf(r *rand.Rand) api.Inner {
	x := api.Inner{Rate: ratesOf(r), Beta1: betaOf(r), Beta2: betaOf(r), Eps: max(numberOf(r), 1)}
	if r.IntN(2) == 0 {
		x.Decay = above(r)
	}
	if r.IntN(2) == 0 {
		x.Clip = above(r)
	}
	return x
}

// taskOf is a step that is right, of any kind.
func taskOf(r *rand.Rand) task {
	n := r.IntN(6)
	return task{
		x: innerOf(r),
		s: api.Adam{M: vectorOf(r, n), V: vectorOf(r, n), T: r.IntN(60)},
		p: vectorOf(r, n),
		g: vectorOf(r, n),
	}
}

// list is a vector written out; one of no part is empty, not nil.
func list(parts ...api.Fix) []api.Fix { return append([]api.Fix{}, parts...) }

// full is a vector of n parts that are all alike.
func full(n int, x api.Fix) []api.Fix {
	out := make([]api.Fix, n)
	for i := range out {
		out[i] = x
	}
	return out
}
