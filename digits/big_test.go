package digits_test

import (
	"math"
	"math/big"
	"math/rand/v2"
	"regexp"
	"strings"
	"testing"

	"regatta/api"
)

// The tests hold the package against the library's fractions and patterns, which know neither steps nor a range.

// texts of numbers and of whole numbers, and those that are told, by the chapter's section 'Texts'.
var (
	numberForm = regexp.MustCompile(`^-?(0|[1-9][0-9]*)(\.[0-9]+)?$`)
	wholeForm  = regexp.MustCompile(`^(0|-?[1-9][0-9]*)$`)
	toldForm   = regexp.MustCompile(`^(0|-?[1-9][0-9]*|-?(0|[1-9][0-9]*)\.[0-9]{0,31}[1-9])$`)
)

// valueOf is the number that a stands for.
func valueOf(a api.Fix) *big.Rat {
	return big.NewRat(int64(a), int64(api.One))
}

// textOf is a's text by the library's digits, of which a number of steps never needs more than 32 behind the point.
func textOf(a api.Fix) string {
	return strings.TrimRight(strings.TrimRight(valueOf(a).FloatString(32), "0"), ".")
}

// ratOf is the number that a text stands for, exactly.
func ratOf(t *testing.T, s string) *big.Rat {
	t.Helper()
	r, ok := new(big.Rat).SetString(s)
	if !ok {
		t.Fatalf("the library reads no number in %q", s)
	}
	return r
}

// rounded is the whole number next to r, of two the even one.
func rounded(r *big.Rat) *big.Int {
	down := new(big.Int).Div(r.Num(), r.Denom()) // a denominator is above 0: Div goes down
	left := new(big.Rat).Sub(r, new(big.Rat).SetInt(down))
	side := left.Cmp(big.NewRat(1, 2))
	if side > 0 || side == 0 && down.Bit(0) == 1 {
		down.Add(down, big.NewInt(1))
	}
	return down
}

// readOf is what Parse is to answer to a text of any kind.
func readOf(t *testing.T, s string) read {
	t.Helper()
	if !numberForm.MatchString(s) {
		return read{e: api.ErrText}
	}
	ahead, behind, _ := strings.Cut(strings.TrimPrefix(s, "-"), ".")
	if len(ahead) > 20 || len(behind) > 40 {
		return read{e: api.ErrLong}
	}
	n := rounded(new(big.Rat).Mul(ratOf(t, s), new(big.Rat).SetInt64(int64(api.One))))
	switch {
	case n.IsInt64():
		return read{x: api.Fix(n.Int64())}
	case n.Sign() < 0:
		return read{x: api.MinFix, held: true}
	}
	return read{x: api.MaxFix, held: true}
}

// intOf is what Int is to answer to a text of any kind.
func intOf(t *testing.T, s string) told {
	t.Helper()
	if !wholeForm.MatchString(s) {
		return told{e: api.ErrText}
	}
	n, ok := new(big.Int).SetString(s, 10)
	if !ok {
		t.Fatalf("the library reads no whole number in %q", s)
	}
	if !n.IsInt64() {
		return told{e: api.ErrBig}
	}
	return told{n: int(n.Int64())}
}

// mixed makes words without a pattern, the same ones each time.
func mixed(seed uint64) *rand.Rand { return rand.New(rand.NewPCG(seed, seed)) }

// numbers are the ends, powers of two and of ten and what lies beside them, and numbers of all lengths, on both sides of 0.
func numbers() []int64 {
	list := []int64{0, math.MaxInt64, math.MaxInt64 - 1, math.MinInt64, math.MinInt64 + 1}
	for n := range 63 {
		list = append(list, 1<<n-1, 1<<n, 1<<n+1, -(1<<n - 1), -(1 << n), -(1<<n + 1))
	}
	for ten := int64(1); ten <= 1e18; ten *= 10 {
		list = append(list, ten-1, ten, ten+1, 1-ten, -ten, -ten-1)
	}
	m := mixed(3)
	for n := range 64 * 8 {
		x := int64(m.Uint64() >> (n % 64))
		list = append(list, x, -x)
	}
	return list
}

// digitsOf makes n digits without a pattern, the first one not 0.
func digitsOf(m *rand.Rand, n int) string {
	b := make([]byte, n)
	for i := range b {
		b[i] = byte('0' + m.IntN(10))
	}
	b[0] = byte('1' + m.IntN(9))
	return string(b)
}
