package wide_test

import (
	"cmp"
	"math"
	"testing"

	"regatta/api"
	"regatta/wide"
)

const (
	most  = math.MaxInt64
	least = math.MinInt64
	ones  = math.MaxUint64
)

var (
	top    = api.Wide{Hi: most, Lo: ones} // 2^127 - 1
	bottom = api.Wide{Hi: least}          // -2^127
)

// P1.1
func TestOf(t *testing.T) {
	cases := []struct {
		n    int64
		want api.Wide
	}{
		{0, api.Wide{}},
		{1, api.Wide{Lo: 1}},
		{-1, api.Wide{Hi: -1, Lo: ones}},
		{most, api.Wide{Lo: most}},
		{least, api.Wide{Hi: -1, Lo: 1 << 63}},
	}
	for _, c := range cases {
		if got := wide.Of(c.n); got != c.want {
			t.Errorf("Of(%d) = %v, want %v", c.n, got, c.want)
		}
	}
}

// P1.1
func TestSumsAtTheEnds(t *testing.T) {
	one := wide.Of(1)
	cases := []struct {
		what      string
		got, want api.Wide
	}{
		{"top + 1", wide.Add(top, one), bottom},
		{"bottom - 1", wide.Sub(bottom, one), top},
		{"bottom + bottom", wide.Add(bottom, bottom), api.Wide{}},
		{"top + top", wide.Add(top, top), wide.Of(-2)},
		{"top - bottom", wide.Sub(top, bottom), wide.Of(-1)},
		{"-bottom", wide.Neg(bottom), bottom},
		{"-top", wide.Neg(top), wide.Add(bottom, one)},
		{"-0", wide.Neg(api.Wide{}), api.Wide{}},
		{"carry", wide.Add(api.Wide{Lo: ones}, one), api.Wide{Hi: 1}},
		{"borrow", wide.Sub(api.Wide{Hi: 1}, one), api.Wide{Lo: ones}},
		{"-(2^64)", wide.Neg(api.Wide{Hi: 1}), api.Wide{Hi: -1}},
	}
	for _, c := range cases {
		if c.got != c.want {
			t.Errorf("%s = %v, want %v", c.what, c.got, c.want)
		}
	}
}

// P1.1
func TestSums(t *testing.T) {
	for _, a := range wides() {
		checkWide(t, wide.Neg(a), wrapped(new(bigInt).Neg(bigOf(a)), 128), "Neg", a)
		for _, b := range wides() {
			checkWide(t, wide.Add(a, b), wrapped(new(bigInt).Add(bigOf(a), bigOf(b)), 128), "Add", a, b)
			checkWide(t, wide.Sub(a, b), wrapped(new(bigInt).Sub(bigOf(a), bigOf(b)), 128), "Sub", a, b)
		}
	}
}

// P1.1
func TestCmp(t *testing.T) {
	rising := []api.Wide{bottom, {Hi: -1}, wide.Of(least), wide.Of(-1), {}, wide.Of(1), wide.Of(most), {Lo: 1 << 63}, {Lo: ones}, {Hi: 1}, top}
	for i, a := range rising {
		for j, b := range rising {
			if got := wide.Cmp(a, b); got != cmp.Compare(i, j) {
				t.Errorf("Cmp(%v, %v) = %d", a, b, got)
			}
		}
	}
	for _, a := range wides() {
		for _, b := range wides() {
			if got := wide.Cmp(a, b); got != bigOf(a).Cmp(bigOf(b)) {
				t.Fatalf("Cmp(%v, %v) = %d", a, b, got)
			}
		}
	}
}

// P1.2
func TestMul(t *testing.T) {
	cases := []struct {
		a, b int64
		want api.Wide
	}{
		{least, least, api.Wide{Hi: 1 << 62}},
		{least, most, api.Wide{Hi: -1 << 62, Lo: 1 << 63}},
		{most, most, api.Wide{Hi: 1<<62 - 1, Lo: 1}},
		{least, -1, api.Wide{Lo: 1 << 63}},
		{least, 1, api.Wide{Hi: -1, Lo: 1 << 63}},
		{-3, 5, wide.Of(-15)},
		{0, least, api.Wide{}},
	}
	for _, c := range cases {
		if got := wide.Mul(c.a, c.b); got != c.want {
			t.Errorf("Mul(%d, %d) = %v, want %v", c.a, c.b, got, c.want)
		}
	}
	for _, a := range int64s() {
		for _, b := range int64s() {
			checkWide(t, wide.Mul(a, b), new(bigInt).Mul(bigInt64(a), bigInt64(b)), "Mul", a, b)
		}
	}
}

// P1.3
func TestShifts(t *testing.T) {
	for _, a := range wides() {
		for n := range 128 {
			checkWide(t, wide.Shl(a, n), wrapped(new(bigInt).Lsh(bigOf(a), uint(n)), 128), "Shl", a, n)
			checkWide(t, wide.Shr(a, n), new(bigInt).Rsh(bigOf(a), uint(n)), "Shr", a, n)
			checkWide(t, wide.Round(a, n), quotient(bigOf(a), power(n)), "Round", a, n)
		}
	}
}

// P1.3
func TestShiftsByFewAndMany(t *testing.T) {
	for _, a := range wides() {
		for _, n := range []int{math.MinInt, -128, -64, -1, 0} {
			if wide.Shl(a, n) != a || wide.Shr(a, n) != a || wide.Round(a, n) != a {
				t.Fatalf("%v by %d bits must stay", a, n)
			}
		}
		sign := wide.Of(0)
		if a.Hi < 0 {
			sign = wide.Of(-1)
		}
		for _, n := range []int{128, 129, 191, 192, 256, 1 << 32, math.MaxInt} {
			if got := wide.Shl(a, n); got != (api.Wide{}) {
				t.Fatalf("Shl(%v, %d) = %v", a, n, got)
			}
			if got := wide.Round(a, n); got != (api.Wide{}) {
				t.Fatalf("Round(%v, %d) = %v", a, n, got)
			}
			if got := wide.Shr(a, n); got != sign {
				t.Fatalf("Shr(%v, %d) = %v", a, n, got)
			}
		}
	}
}

// P1.3
func TestShiftsAtTheEnds(t *testing.T) {
	half := api.Wide{Hi: 1 << 62} // 2^126
	one := wide.Of(1)
	cases := []struct {
		what      string
		got, want api.Wide
	}{
		{"Shl(1, 127)", wide.Shl(one, 127), bottom},
		{"Shl(2, 127)", wide.Shl(wide.Of(2), 127), api.Wide{}},
		{"Shl(1, 64)", wide.Shl(one, 64), api.Wide{Hi: 1}},
		{"Shl(2^63, 1)", wide.Shl(api.Wide{Lo: 1 << 63}, 1), api.Wide{Hi: 1}},
		{"Shr(-5, 1)", wide.Shr(wide.Of(-5), 1), wide.Of(-3)},
		{"Shr(bottom, 127)", wide.Shr(bottom, 127), wide.Of(-1)},
		{"Shr(top, 127)", wide.Shr(top, 127), api.Wide{}},
		{"Round(bottom, 127)", wide.Round(bottom, 127), wide.Of(-1)},
		{"Round(top, 127)", wide.Round(top, 127), one},
		{"Round(2^126, 127)", wide.Round(half, 127), api.Wide{}},
		{"Round(2^126 + 1, 127)", wide.Round(wide.Add(half, one), 127), one},
		{"Round(-2^126, 127)", wide.Round(wide.Neg(half), 127), api.Wide{}},
		{"Round(-2^126 - 1, 127)", wide.Round(wide.Sub(wide.Neg(half), one), 127), wide.Of(-1)},
		{"Round(top, 1)", wide.Round(top, 1), half},
	}
	for _, c := range cases {
		if c.got != c.want {
			t.Errorf("%s = %v, want %v", c.what, c.got, c.want)
		}
	}
}

// P1.3
func TestRoundHalves(t *testing.T) {
	for _, c := range [][3]int64{
		{5, 1, 2}, {7, 1, 4}, {1, 1, 0}, {3, 1, 2}, {-5, 1, -2}, {-7, 1, -4}, {-1, 1, 0}, {-3, 1, -2},
		{2, 2, 0}, {6, 2, 2}, {10, 2, 2}, {9, 2, 2}, {11, 2, 3}, {-6, 2, -2}, {-9, 2, -2}, {-10, 2, -2}, {-11, 2, -3},
	} {
		if got := wide.Round(wide.Of(c[0]), int(c[1])); got != wide.Of(c[2]) {
			t.Errorf("Round(%d, %d) = %v, want %d", c[0], c[1], got, c[2])
		}
	}
}

// P1.4
func TestQuo(t *testing.T) {
	for _, a := range wides() {
		for _, d := range int64s() {
			got, ok := wide.Quo(a, d)
			if d == 0 {
				if ok || got != (api.Wide{}) {
					t.Fatalf("Quo(%v, 0) = %v, %v", a, got, ok)
				}
				continue
			}
			if !ok {
				t.Fatalf("Quo(%v, %d) answered false", a, d)
			}
			checkWide(t, got, wrapped(quotient(bigOf(a), bigInt64(d)), 128), "Quo", a, d)
		}
	}
}

// P1.4
func TestQuoAtTheEdges(t *testing.T) {
	cases := []struct {
		a    api.Wide
		d    int64
		want api.Wide
	}{
		{wide.Of(7), 2, wide.Of(4)},
		{wide.Of(5), 2, wide.Of(2)},
		{wide.Of(-5), 2, wide.Of(-2)},
		{wide.Of(-7), 2, wide.Of(-4)},
		{wide.Of(-7), -2, wide.Of(4)},
		{wide.Of(1), -2, wide.Of(0)},
		{wide.Of(2), 3, wide.Of(1)},
		{wide.Of(1), 3, wide.Of(0)},
		{wide.Of(-2), 3, wide.Of(-1)},
		{bottom, -1, bottom},
		{bottom, 1, bottom},
		{top, -1, wide.Neg(top)},
		{bottom, least, api.Wide{Hi: 1}},
		{top, least, api.Wide{Hi: -1}},
		{api.Wide{Lo: 1 << 62}, least, api.Wide{}},
		{api.Wide{Lo: 1<<62 + 1}, least, wide.Of(-1)},
		{wide.Of(least), most, wide.Of(-1)},
	}
	for _, c := range cases {
		if got, ok := wide.Quo(c.a, c.d); !ok || got != c.want {
			t.Errorf("Quo(%v, %d) = %v, %v, want %v", c.a, c.d, got, ok, c.want)
		}
	}
}

// P1.5
func TestClamp(t *testing.T) {
	cases := []struct {
		a    api.Wide
		want int64
		over bool
	}{
		{wide.Of(0), 0, false},
		{wide.Of(-1), -1, false},
		{wide.Of(most), most, false},
		{wide.Add(wide.Of(most), wide.Of(1)), most, true},
		{wide.Of(least), least, false},
		{wide.Sub(wide.Of(least), wide.Of(1)), least, true},
		{top, most, true},
		{bottom, least, true},
		{api.Wide{Hi: 1}, most, true},
		{api.Wide{Hi: -1}, least, true},
		{api.Wide{Hi: -2, Lo: ones}, least, true},
	}
	for _, c := range cases {
		if got, over := wide.Clamp(c.a); got != c.want || over != c.over {
			t.Errorf("Clamp(%v) = %d, %v, want %d, %v", c.a, got, over, c.want, c.over)
		}
	}
	for _, a := range wides() {
		want, held := clampedBig(bigOf(a))
		if got, over := wide.Clamp(a); got != want || over != held {
			t.Fatalf("Clamp(%v) = %d, %v, want %d, %v", a, got, over, want, held)
		}
	}
}
