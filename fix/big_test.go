package fix_test

import (
	"math"
	"math/big"
	"math/rand/v2"
	"testing"

	"regatta/api"
)

// The tests hold the package against the library's fractions, which know neither steps nor a range.

const (
	most  = math.MaxInt64
	least = math.MinInt64
)

// valueOf is the number that a stands for.
func valueOf(a api.Fix) *big.Rat {
	return new(big.Rat).SetFrac(big.NewInt(int64(a)), big.NewInt(int64(api.One)))
}

func wholeOf(n int) *big.Rat { return new(big.Rat).SetInt64(int64(n)) }

// floorOf is the greatest whole number that is not above r.
func floorOf(r *big.Rat) *big.Int {
	return new(big.Int).Div(r.Num(), r.Denom()) // a denominator is above 0: Div goes down
}

// rounded is the whole number next to r, of two the even one.
func rounded(r *big.Rat) *big.Int {
	down := floorOf(r)
	left := new(big.Rat).Sub(r, new(big.Rat).SetInt(down))
	side := left.Cmp(big.NewRat(1, 2))
	if side > 0 || side == 0 && down.Bit(0) == 1 {
		down.Add(down, big.NewInt(1))
	}
	return down
}

// heldOf is what the chapter calls held, of an exact result.
func heldOf(r *big.Rat) (api.Fix, bool) {
	n := rounded(new(big.Rat).Mul(r, wholeOf(int(api.One))))
	switch {
	case n.IsInt64():
		return api.Fix(n.Int64()), false
	case n.Sign() < 0:
		return api.MinFix, true
	}
	return api.MaxFix, true
}

// byOf is a / d, held; by 0 it is the end on a's side, or 0.
func byOf(a, d *big.Rat) (api.Fix, bool) {
	if d.Sign() != 0 {
		return heldOf(new(big.Rat).Quo(a, d))
	}
	return []api.Fix{api.MinFix, 0, api.MaxFix}[a.Sign()+1], true
}

func checkHeld(t *testing.T, got api.Fix, over bool, want api.Fix, wantOver bool, call string, args ...any) {
	t.Helper()
	if got != want || over != wantOver {
		t.Fatalf("%s%v = %d, %t, want %d, %t", call, args, got, over, want, wantOver)
	}
}

// mixed makes words without a pattern, the same ones each time.
func mixed(seed uint64) *rand.Rand { return rand.New(rand.NewPCG(seed, seed)) }

// numbers are those in which steps, halves and ends turn, and numbers of all lengths on both sides of 0.
func numbers() []int64 {
	list := []int64{0, most, least, least + 1}
	for _, n := range []uint{0, 1, 2, 15, 16, 31, 32, 33, 47, 48, 53, 62} {
		for _, x := range []int64{1<<n - 1, 1 << n, 1<<n + 1, 3 << n >> 1} {
			list = append(list, x, -x)
		}
	}
	m := mixed(1)
	for n := range 64 {
		x := int64(m.Uint64() >> n)
		list = append(list, x, -x)
	}
	return list
}

func fixes() []api.Fix {
	var list []api.Fix
	for _, n := range numbers() {
		list = append(list, api.Fix(n))
	}
	return list
}

func ints() []int {
	var list []int
	for _, n := range numbers() {
		list = append(list, int(n))
	}
	return list
}
