package mlp_test

import (
	"math/big"
	"math/rand/v2"

	"regatta/api"
)

// The tests hold the package against the library's whole numbers, which have no range.

const (
	one  = api.One
	half = api.One / 2
	top  = api.MaxFix
	low  = api.MinFix
)

// model reckons as the chapter says, and counts what it holds.
type model struct{ held int }

// hold is n / d steps, d being above 0: the nearest whole number of them, of two the even one, within the range.
func (m *model) hold(n *big.Int, d int64) api.Fix {
	down, left := new(big.Int).DivMod(n, big.NewInt(d), new(big.Int))
	side := left.Lsh(left, 1).Cmp(big.NewInt(d))
	if side > 0 || side == 0 && down.Bit(0) == 1 {
		down.Add(down, big.NewInt(1))
	}
	if down.IsInt64() {
		return api.Fix(down.Int64())
	}
	m.held++
	if down.Sign() < 0 {
		return low
	}
	return top
}

func bigOf(a api.Fix) *big.Int { return big.NewInt(int64(a)) }

func product(a, b api.Fix) *big.Int { return new(big.Int).Mul(bigOf(a), bigOf(b)) }

func (m *model) mul(a, b api.Fix) api.Fix { return m.hold(product(a, b), int64(one)) }

func (m *model) sub(a, b api.Fix) api.Fix { return m.hold(new(big.Int).Sub(bigOf(a), bigOf(b)), 1) }

// net is a net whose parameters are found by their layer, row and column.
type net struct {
	sizes []int
	p     []api.Fix
}

// first is the place of a layer's first parameter.
func (n net) first(k int) int {
	at := 0
	for i := range k {
		at += n.sizes[i]*n.sizes[i+1] + n.sizes[i+1]
	}
	return at
}

func (n net) layers() int { return len(n.sizes) - 1 }

func (n net) weightPlace(k, o, i int) int { return n.first(k) + o*n.sizes[k] + i }

func (n net) offsetPlace(k, o int) int { return n.first(k) + n.sizes[k]*n.sizes[k+1] + o }

func (m *model) forward(n net, x []api.Fix) [][]api.Fix {
	values := [][]api.Fix{x}
	for k := range n.layers() {
		var out []api.Fix
		for o := range n.sizes[k+1] {
			sum := product(n.p[n.offsetPlace(k, o)], one)
			for i, v := range values[k] {
				sum.Add(sum, product(n.p[n.weightPlace(k, o, i)], v))
			}
			y := m.hold(sum, int64(one))
			if k+1 < n.layers() && y < 0 {
				y = 0
			}
			out = append(out, y)
		}
		values = append(values, out)
	}
	return values
}

func (m *model) loss(loss int, y, t []api.Fix) api.Fix {
	sum := new(big.Int)
	for i := range y {
		if loss == api.Squared {
			d := m.sub(y[i], t[i])
			sum.Add(sum, product(d, d))
		} else if h := m.sub(one, m.mul(t[i], y[i])); h > 0 {
			sum.Add(sum, bigOf(h))
		}
	}
	if loss == api.Squared {
		return m.hold(sum, 2*int64(one))
	}
	return m.hold(sum, 1)
}

func (m *model) slope(loss int, y, t []api.Fix) []api.Fix {
	var out []api.Fix
	for i := range y {
		s := api.Fix(0)
		if loss == api.Squared {
			s = m.sub(y[i], t[i])
		} else if m.sub(one, m.mul(t[i], y[i])) > 0 {
			s = m.sub(0, t[i])
		}
		out = append(out, s)
	}
	return out
}

func (m *model) gradient(loss int, n net, x api.Example) ([]api.Fix, api.Fix) {
	values := m.forward(n, x.X)
	y := values[n.layers()]
	far := m.loss(loss, y, x.T)
	s := m.slope(loss, y, x.T)
	g := make([]api.Fix, len(n.p))
	for k := n.layers() - 1; k >= 0; k-- {
		for o, so := range s {
			for i, v := range values[k] {
				g[n.weightPlace(k, o, i)] = m.mul(so, v)
			}
			g[n.offsetPlace(k, o)] = so
		}
		if k > 0 {
			s = m.slopesAhead(n, k, s, values[k])
		}
	}
	return g, far
}

func (m *model) slopesAhead(n net, k int, s, v []api.Fix) []api.Fix {
	out := make([]api.Fix, len(v))
	for i := range v {
		if v[i] > 0 {
			sum := new(big.Int)
			for o := range s {
				sum.Add(sum, product(s[o], n.p[n.weightPlace(k, o, i)]))
			}
			out[i] = m.hold(sum, int64(one))
		}
	}
	return out
}

func (m *model) mean(list []api.Fix) api.Fix {
	sum := new(big.Int)
	for _, x := range list {
		sum.Add(sum, bigOf(x))
	}
	return m.hold(sum, int64(len(list)))
}

func (m *model) batch(loss int, n net, list []api.Example) ([]api.Fix, api.Fix) {
	parts := make([][]api.Fix, len(n.p))
	var losses []api.Fix
	for _, x := range list {
		g, far := m.gradient(loss, n, x)
		for i := range g {
			parts[i] = append(parts[i], g[i])
		}
		losses = append(losses, far)
	}
	var means []api.Fix
	for _, list := range parts {
		means = append(means, m.mean(list))
	}
	return means, m.mean(losses)
}

// mixed makes words without a pattern, the same ones each time.
func mixed(seed uint64) *rand.Rand { return rand.New(rand.NewPCG(seed, seed)) }

// numberOf is a number of any length, or one at which steps, halves and ends turn.
func numberOf(m *rand.Rand) api.Fix {
	edges := []api.Fix{0, 0, 1, -1, 2, 3, half - 1, half, half + 1, -half, one - 1, one, one + 1, -one, -2 * one, top, top - 1, low, low + 1}
	if n := m.IntN(2 * len(edges)); n < len(edges) {
		return edges[n]
	}
	return api.Fix(m.Uint64()) >> m.IntN(64)
}

// vectorOf is a vector of n parts: of those above, or, so that sums stay within the range too, of short ones.
func vectorOf(m *rand.Rand, n int) []api.Fix {
	down := []int{0, 24, 29}[m.IntN(3)]
	out := make([]api.Fix, n)
	for i := range out {
		out[i] = numberOf(m) >> down
	}
	return out
}

// netOf is a small net of any shape.
func netOf(m *rand.Rand) net {
	n := net{}
	for range 2 + m.IntN(api.MaxSizes-1) {
		n.sizes = append(n.sizes, 1+m.IntN(4))
	}
	n.p = vectorOf(m, n.first(n.layers()))
	return n
}

func (n net) input(m *rand.Rand) []api.Fix { return vectorOf(m, n.sizes[0]) }

func (n net) example(m *rand.Rand) api.Example {
	return api.Example{X: n.input(m), T: vectorOf(m, n.sizes[n.layers()])}
}

// full is a vector of n parts that are all alike.
func full(n int, x api.Fix) []api.Fix {
	out := make([]api.Fix, n)
	for i := range out {
		out[i] = x
	}
	return out
}

// fullSizes is n sizes that are all alike.
func fullSizes(n, size int) []int {
	out := make([]int, n)
	for i := range out {
		out[i] = size
	}
	return out
}

// list is a vector written out; one of no part is empty, not nil.
func list(parts ...api.Fix) []api.Fix { return append([]api.Fix{}, parts...) }

// sizesOf is sizes written out.
func sizesOf(sizes ...int) []int { return sizes }
