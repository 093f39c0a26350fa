package vec_test

import (
	"math/big"
	"math/rand/v2"

	"regatta/api"
)

// The tests hold the package against the library's whole numbers, which have no range.

const (
	one  = api.One
	half = api.One / 2
	top  = api.MaxFix
	low  = api.MinFix
)

// model reckons as the chapter says, and counts what it holds.
type model struct{ held int }

// hold is n / d steps, d being above 0: the nearest whole number of them, of two the even one, within the range.
func (m *model) hold(n, d *big.Int) api.Fix {
	down, left := new(big.Int).DivMod(n, d, new(big.Int))
	side := left.Lsh(left, 1).Cmp(d)
	if side > 0 || side == 0 && down.Bit(0) == 1 {
		down.Add(down, big.NewInt(1))
	}
	return m.within(down)
}

func (m *model) within(steps *big.Int) api.Fix {
	if steps.IsInt64() {
		return api.Fix(steps.Int64())
	}
	m.held++
	if steps.Sign() < 0 {
		return low
	}
	return top
}

func bigOf(a api.Fix) *big.Int { return big.NewInt(int64(a)) }

func productOf(a, b api.Fix) *big.Int { return new(big.Int).Mul(bigOf(a), bigOf(b)) }

// productsOf is the sum of the products in steps of 2^-64.
func productsOf(a, b []api.Fix) *big.Int {
	sum := new(big.Int)
	for i := range a {
		sum.Add(sum, productOf(a[i], b[i]))
	}
	return sum
}

func totalOf(a []api.Fix) *big.Int {
	sum := new(big.Int)
	for _, x := range a {
		sum.Add(sum, bigOf(x))
	}
	return sum
}

func (m *model) mul(a, b api.Fix) api.Fix { return m.hold(productOf(a, b), bigOf(one)) }

func (m *model) dot(a, b []api.Fix) api.Fix { return m.hold(productsOf(a, b), bigOf(one)) }

func (m *model) sum(a []api.Fix) api.Fix { return m.within(totalOf(a)) }

func (m *model) mean(a []api.Fix) api.Fix { return m.hold(totalOf(a), big.NewInt(int64(len(a)))) }

func (m *model) norm(a []api.Fix) api.Fix {
	square := productsOf(a, a)
	return m.within(square.Sqrt(square))
}

func (m *model) scale(k api.Fix, a []api.Fix) []api.Fix {
	var out []api.Fix
	for _, x := range a {
		out = append(out, m.mul(k, x))
	}
	return out
}

func (m *model) add(a, b []api.Fix) []api.Fix {
	var out []api.Fix
	for i := range a {
		out = append(out, m.within(new(big.Int).Add(bigOf(a[i]), bigOf(b[i]))))
	}
	return out
}

func (m *model) sub(a, b []api.Fix) []api.Fix {
	var out []api.Fix
	for i := range a {
		out = append(out, m.within(new(big.Int).Sub(bigOf(a[i]), bigOf(b[i]))))
	}
	return out
}

func (m *model) axpy(k api.Fix, x, y []api.Fix) []api.Fix {
	var out []api.Fix
	for i := range x {
		out = append(out, m.hold(new(big.Int).Add(productOf(y[i], one), productOf(k, x[i])), bigOf(one)))
	}
	return out
}

func (m *model) matVec(a api.Mat, x []api.Fix) []api.Fix {
	var out []api.Fix
	for i := range a.Rows {
		out = append(out, m.dot(a.A[i*a.Cols:(i+1)*a.Cols], x))
	}
	return out
}

func (m *model) vecMat(x []api.Fix, a api.Mat) []api.Fix {
	var out []api.Fix
	for j := range a.Cols {
		var column []api.Fix
		for i := range a.Rows {
			column = append(column, a.A[i*a.Cols+j])
		}
		out = append(out, m.dot(x, column))
	}
	return out
}

func (m *model) outer(x, y []api.Fix) []api.Fix {
	var out []api.Fix
	for _, k := range x {
		out = append(out, m.scale(k, y)...)
	}
	return out
}

func (m *model) clip(a []api.Fix, most api.Fix) ([]api.Fix, bool) {
	if most <= 0 {
		return a, false
	}
	length := m.norm(a)
	if length <= most {
		return a, false
	}
	return m.scale(m.hold(productOf(most, one), bigOf(length)), a), true
}

func (m *model) means(list [][]api.Fix) []api.Fix {
	var out []api.Fix
	for i := range list[0] {
		var parts []api.Fix
		for _, a := range list {
			parts = append(parts, a[i])
		}
		out = append(out, m.mean(parts))
	}
	return out
}

// mixed makes words without a pattern, the same ones each time.
func mixed(seed uint64) *rand.Rand { return rand.New(rand.NewPCG(seed, seed)) }

// numberOf is a number of any length, or one at which steps, halves and ends turn.
func numberOf(m *rand.Rand) api.Fix {
	edges := []api.Fix{0, 1, -1, 2, -2, 3, half - 1, half, half + 1, -half, one - 1, one, one + 1, -one, top, top - 1, low, low + 1}
	if n := m.IntN(2 * len(edges)); n < len(edges) {
		return edges[n]
	}
	return api.Fix(m.Uint64()) >> m.IntN(64)
}

// vectorOf is a vector of n parts: of those above, or, so that sums stay within the range too, of short ones.
func vectorOf(m *rand.Rand, n int) []api.Fix {
	short := m.IntN(2) == 0
	out := make([]api.Fix, n)
	for i := range out {
		out[i] = numberOf(m)
		if short {
			out[i] >>= 24
		}
	}
	return out
}

func matOf(m *rand.Rand, rows, cols int) api.Mat {
	return api.Mat{Rows: rows, Cols: cols, A: vectorOf(m, rows*cols)}
}

// full is a vector of n parts that are all alike.
func full(n int, x api.Fix) []api.Fix {
	out := make([]api.Fix, n)
	for i := range out {
		out[i] = x
	}
	return out
}
