package fix_test

import (
	"math/big"
	"testing"

	"regatta/api"
	"regatta/fix"
)

const (
	one  = api.One
	half = api.One / 2
	top  = api.MaxFix
	low  = api.MinFix
)

// result is what most of the package's functions answer.
type result struct {
	x    api.Fix
	over bool
}

func pair(x api.Fix, over bool) result { return result{x, over} }

type named struct {
	call      string
	got, want result
}

func checkNamed(t *testing.T, cases []named) {
	t.Helper()
	for _, c := range cases {
		if c.got != c.want {
			t.Errorf("%s = %v, want %v", c.call, c.got, c.want)
		}
	}
}

// P2.1
func TestSumsAtTheEnds(t *testing.T) {
	checkNamed(t, []named{
		{"Add(1, 2)", pair(fix.Add(one, 2*one)), result{3 * one, false}},
		{"Add(top, 0)", pair(fix.Add(top, 0)), result{top, false}},
		{"Add(top - 1, 1)", pair(fix.Add(top-1, 1)), result{top, false}},
		{"Add(top, 1)", pair(fix.Add(top, 1)), result{top, true}},
		{"Add(top, top)", pair(fix.Add(top, top)), result{top, true}},
		{"Add(top, low)", pair(fix.Add(top, low)), result{-1, false}},
		{"Add(low + 1, -1)", pair(fix.Add(low+1, -1)), result{low, false}},
		{"Add(low, -1)", pair(fix.Add(low, -1)), result{low, true}},
		{"Add(low, low)", pair(fix.Add(low, low)), result{low, true}},
		{"Sub(1, 3)", pair(fix.Sub(one, 3*one)), result{-2 * one, false}},
		{"Sub(low, 1)", pair(fix.Sub(low, 1)), result{low, true}},
		{"Sub(top, -1)", pair(fix.Sub(top, -1)), result{top, true}},
		{"Sub(-1, top)", pair(fix.Sub(-1, top)), result{low, false}},
		{"Sub(-1, low)", pair(fix.Sub(-1, low)), result{top, false}},
		{"Sub(0, low)", pair(fix.Sub(0, low)), result{top, true}},
		{"Sub(low, low)", pair(fix.Sub(low, low)), result{0, false}},
		{"Neg(0)", pair(fix.Neg(0)), result{0, false}},
		{"Neg(3)", pair(fix.Neg(3 * one)), result{-3 * one, false}},
		{"Neg(top)", pair(fix.Neg(top)), result{low + 1, false}},
		{"Neg(low)", pair(fix.Neg(low)), result{top, true}},
		{"Abs(-1 step)", pair(fix.Abs(-1)), result{1, false}},
		{"Abs(top)", pair(fix.Abs(top)), result{top, false}},
		{"Abs(low)", pair(fix.Abs(low)), result{top, true}},
		{"Abs(low + 1)", pair(fix.Abs(low + 1)), result{top, false}},
	})
}

// P2.1
func TestProductsByHand(t *testing.T) {
	checkNamed(t, []named{
		{"Mul(1, 1)", pair(fix.Mul(one, one)), result{one, false}},
		{"Mul(1 step, 1 step)", pair(fix.Mul(1, 1)), result{0, false}},
		{"Mul(1.5 steps)", pair(fix.Mul(3, half)), result{2, false}},
		{"Mul(-1.5 steps)", pair(fix.Mul(-3, half)), result{-2, false}},
		{"Mul(0.5 steps)", pair(fix.Mul(1, half)), result{0, false}},
		{"Mul(-0.5 steps)", pair(fix.Mul(-1, half)), result{0, false}},
		{"Mul(2.5 steps)", pair(fix.Mul(5, half)), result{2, false}},
		{"Mul(above 0.5 steps)", pair(fix.Mul(1, half+1)), result{1, false}},
		{"Mul(below 0.5 steps)", pair(fix.Mul(1, half-1)), result{0, false}},
		{"Mul(top, 1)", pair(fix.Mul(top, one)), result{top, false}},
		{"Mul(top, -1)", pair(fix.Mul(top, -one)), result{low + 1, false}},
		{"Mul(top, above 1)", pair(fix.Mul(top, one+1)), result{top, true}},
		{"Mul(low, 1)", pair(fix.Mul(low, one)), result{low, false}},
		{"Mul(low, -1)", pair(fix.Mul(low, -one)), result{top, true}},
		{"Mul(low, low)", pair(fix.Mul(low, low)), result{top, true}},
		{"Mul(top, low)", pair(fix.Mul(top, low)), result{low, true}},
		{"Times(3 steps, -2)", pair(fix.Times(3, -2)), result{-6, false}},
		{"Times(top, 1)", pair(fix.Times(top, 1)), result{top, false}},
		{"Times(top, 2)", pair(fix.Times(top, 2)), result{top, true}},
		{"Times(top, -2)", pair(fix.Times(top, -2)), result{low, true}},
		{"Times(low, -1)", pair(fix.Times(low, -1)), result{top, true}},
		{"Times(1 step, least)", pair(fix.Times(1, least)), result{low, false}},
		{"Times(-1 step, least)", pair(fix.Times(-1, least)), result{top, true}},
		{"Times(low, least)", pair(fix.Times(low, least)), result{top, true}},
		{"Times(0, least)", pair(fix.Times(0, least)), result{0, false}},
	})
}

// P2.1
func TestQuotientsByHand(t *testing.T) {
	checkNamed(t, []named{
		{"Div(1, 3)", pair(fix.Div(one, 3*one)), result{1431655765, false}},
		{"Div(2, 3)", pair(fix.Div(2*one, 3*one)), result{2863311531, false}},
		{"Div(-2, 3)", pair(fix.Div(-2*one, 3*one)), result{-2863311531, false}},
		{"Div(0.5 steps)", pair(fix.Div(1, 2*one)), result{0, false}},
		{"Div(1.5 steps)", pair(fix.Div(3, 2*one)), result{2, false}},
		{"Div(-1.5 steps)", pair(fix.Div(3, -2*one)), result{-2, false}},
		{"Div(-2.5 steps)", pair(fix.Div(-5, 2*one)), result{-2, false}},
		{"Div(1, 0)", pair(fix.Div(one, 0)), result{top, true}},
		{"Div(1 step, 0)", pair(fix.Div(1, 0)), result{top, true}},
		{"Div(-1, 0)", pair(fix.Div(-one, 0)), result{low, true}},
		{"Div(0, 0)", pair(fix.Div(0, 0)), result{0, true}},
		{"Div(0, 1)", pair(fix.Div(0, one)), result{0, false}},
		{"Div(low, -1)", pair(fix.Div(low, -one)), result{top, true}},
		{"Div(low, 1)", pair(fix.Div(low, one)), result{low, false}},
		{"Div(top, 1 step)", pair(fix.Div(top, 1)), result{top, true}},
		{"Div(top, -1 step)", pair(fix.Div(top, -1)), result{low, true}},
		{"Div(low, 1 step)", pair(fix.Div(low, 1)), result{low, true}},
		{"Div(low, -1 step)", pair(fix.Div(low, -1)), result{top, true}},
		{"Div(low, low)", pair(fix.Div(low, low)), result{one, false}},
		{"Div(half, 1 step)", pair(fix.Div(half, 1)), result{top, true}},
		{"Div(-half, 1 step)", pair(fix.Div(-half, 1)), result{low, false}},
		{"By(7 steps, 2)", pair(fix.By(7, 2)), result{4, false}},
		{"By(5 steps, 2)", pair(fix.By(5, 2)), result{2, false}},
		{"By(5 steps, -2)", pair(fix.By(5, -2)), result{-2, false}},
		{"By(1, 3)", pair(fix.By(one, 3)), result{1431655765, false}},
		{"By(low, -1)", pair(fix.By(low, -1)), result{top, true}},
		{"By(low, 1)", pair(fix.By(low, 1)), result{low, false}},
		{"By(low, least)", pair(fix.By(low, least)), result{1, false}},
		{"By(top, 0)", pair(fix.By(top, 0)), result{top, true}},
		{"By(-1 step, 0)", pair(fix.By(-1, 0)), result{low, true}},
		{"By(0, 0)", pair(fix.By(0, 0)), result{0, true}},
	})
}

// P2.1
func TestReckoning(t *testing.T) {
	for _, a := range fixes() {
		for _, b := range fixes() {
			checkBoth(t, a, b)
		}
	}
}

func checkBoth(t *testing.T, a, b api.Fix) {
	t.Helper()
	x, y := valueOf(a), valueOf(b)
	for _, c := range []struct {
		call  string
		of    func(a, b api.Fix) (api.Fix, bool)
		exact func(z, x, y *big.Rat) *big.Rat
	}{
		{"Add", fix.Add, (*big.Rat).Add},
		{"Sub", fix.Sub, (*big.Rat).Sub},
		{"Mul", fix.Mul, (*big.Rat).Mul},
	} {
		want, wantOver := heldOf(c.exact(new(big.Rat), x, y))
		got, over := c.of(a, b)
		checkHeld(t, got, over, want, wantOver, c.call, a, b)
	}
	want, wantOver := byOf(x, y)
	got, over := fix.Div(a, b)
	checkHeld(t, got, over, want, wantOver, "Div", a, b)
}

// P2.1
func TestReckoningWithWholeNumbers(t *testing.T) {
	for _, a := range fixes() {
		x := valueOf(a)
		for _, n := range ints() {
			want, wantOver := heldOf(new(big.Rat).Mul(x, wholeOf(n)))
			got, over := fix.Times(a, n)
			checkHeld(t, got, over, want, wantOver, "Times", a, n)
			want, wantOver = byOf(x, wholeOf(n))
			got, over = fix.By(a, n)
			checkHeld(t, got, over, want, wantOver, "By", a, n)
		}
	}
}

// P2.1
func TestSigns(t *testing.T) {
	for _, a := range fixes() {
		x := valueOf(a)
		want, wantOver := heldOf(new(big.Rat).Neg(x))
		got, over := fix.Neg(a)
		checkHeld(t, got, over, want, wantOver, "Neg", a)
		want, wantOver = heldOf(new(big.Rat).Abs(x))
		got, over = fix.Abs(a)
		checkHeld(t, got, over, want, wantOver, "Abs", a)
	}
}

// P2.2
func TestRootsByHand(t *testing.T) {
	checkNamed(t, []named{
		{"Sqrt(0)", pair(fix.Sqrt(0)), result{0, false}},
		{"Sqrt(1)", pair(fix.Sqrt(one)), result{one, false}},
		{"Sqrt(below 1)", pair(fix.Sqrt(one - 1)), result{one - 1, false}},
		{"Sqrt(2)", pair(fix.Sqrt(2 * one)), result{6074000999, false}},
		{"Sqrt(9)", pair(fix.Sqrt(9 * one)), result{3 * one, false}},
		{"Sqrt(below 9)", pair(fix.Sqrt(9*one - 1)), result{3*one - 1, false}},
		{"Sqrt(1 step)", pair(fix.Sqrt(1)), result{1 << 16, false}},
		{"Sqrt(2 steps)", pair(fix.Sqrt(2)), result{92681, false}},
		{"Sqrt(top)", pair(fix.Sqrt(top)), result{199032864766430, false}},
		{"Sqrt(-1 step)", pair(fix.Sqrt(-1)), result{0, true}},
		{"Sqrt(low)", pair(fix.Sqrt(low)), result{0, true}},
	})
}

// P2.2
func TestRoots(t *testing.T) {
	for _, a := range fixes() {
		got, over := fix.Sqrt(a)
		if a < 0 {
			checkHeld(t, got, over, 0, true, "Sqrt", a)
			continue
		}
		next := valueOf(got + 1)
		square := new(big.Rat).Mul(valueOf(got), valueOf(got))
		if over || got < 0 || square.Cmp(valueOf(a)) > 0 || next.Mul(next, next).Cmp(valueOf(a)) <= 0 {
			t.Fatalf("Sqrt(%d) = %d, %t", a, got, over)
		}
	}
}

// P2.3
func TestWholeNumbersByHand(t *testing.T) {
	checkNamed(t, []named{
		{"Int(0)", pair(fix.Int(0)), result{0, false}},
		{"Int(-7)", pair(fix.Int(-7)), result{-7 * one, false}},
		{"Int(2^31 - 1)", pair(fix.Int(1<<31 - 1)), result{(1<<31 - 1) * one, false}},
		{"Int(2^31)", pair(fix.Int(1 << 31)), result{top, true}},
		{"Int(-2^31)", pair(fix.Int(-1 << 31)), result{low, false}},
		{"Int(-2^31 - 1)", pair(fix.Int(-1<<31 - 1)), result{low, true}},
		{"Int(most)", pair(fix.Int(most)), result{top, true}},
		{"Int(least)", pair(fix.Int(least)), result{low, true}},
		{"Ratio(1, 3)", pair(fix.Ratio(1, 3)), result{1431655765, false}},
		{"Ratio(-1, 3)", pair(fix.Ratio(-1, 3)), result{-1431655765, false}},
		{"Ratio(1, -3)", pair(fix.Ratio(1, -3)), result{-1431655765, false}},
		{"Ratio(0.5 steps)", pair(fix.Ratio(1, 1<<33)), result{0, false}},
		{"Ratio(1.5 steps)", pair(fix.Ratio(3, 1<<33)), result{2, false}},
		{"Ratio(-1.5 steps)", pair(fix.Ratio(3, -1<<33)), result{-2, false}},
		{"Ratio(1, 0)", pair(fix.Ratio(1, 0)), result{top, true}},
		{"Ratio(-1, 0)", pair(fix.Ratio(-1, 0)), result{low, true}},
		{"Ratio(0, 0)", pair(fix.Ratio(0, 0)), result{0, true}},
		{"Ratio(2^31, 1)", pair(fix.Ratio(1<<31, 1)), result{top, true}},
		{"Ratio(-2^31, 1)", pair(fix.Ratio(-1<<31, 1)), result{low, false}},
		{"Ratio(2^31, -1)", pair(fix.Ratio(1<<31, -1)), result{low, false}},
		{"Ratio(least, least)", pair(fix.Ratio(least, least)), result{one, false}},
		{"Ratio(least, -1)", pair(fix.Ratio(least, -1)), result{top, true}},
	})
}

// P2.3
func TestWholeNumbers(t *testing.T) {
	for _, n := range ints() {
		want, wantOver := heldOf(wholeOf(n))
		got, over := fix.Int(n)
		checkHeld(t, got, over, want, wantOver, "Int", n)
		for _, d := range ints() {
			want, wantOver := byOf(wholeOf(n), wholeOf(d))
			got, over := fix.Ratio(n, d)
			checkHeld(t, got, over, want, wantOver, "Ratio", n, d)
		}
	}
}

// P2.3
func TestWholePartsByHand(t *testing.T) {
	cases := []struct {
		a            api.Fix
		floor, whole int
	}{
		{0, 0, 0},
		{1, 0, 0},
		{-1, -1, 0},
		{half - 1, 0, 0},
		{half, 0, 0},
		{half + 1, 0, 1},
		{-half, -1, 0},
		{-half - 1, -1, -1},
		{one + half, 1, 2},
		{-one - half, -2, -2},
		{2*one + half, 2, 2},
		{-2*one - half, -3, -2},
		{-one, -1, -1},
		{top, 1<<31 - 1, 1 << 31},
		{low, -1 << 31, -1 << 31},
	}
	for _, c := range cases {
		if floor, whole := fix.Floor(c.a), fix.Whole(c.a); floor != c.floor || whole != c.whole {
			t.Errorf("of %d Floor is %d and Whole %d, want %d and %d", c.a, floor, whole, c.floor, c.whole)
		}
	}
}

// P2.3
func TestWholeParts(t *testing.T) {
	for _, a := range fixes() {
		if got, want := fix.Floor(a), floorOf(valueOf(a)); !want.IsInt64() || int64(got) != want.Int64() {
			t.Errorf("Floor(%d) = %d, want %v", a, got, want)
		}
		if got, want := fix.Whole(a), rounded(valueOf(a)); !want.IsInt64() || int64(got) != want.Int64() {
			t.Errorf("Whole(%d) = %d, want %v", a, got, want)
		}
	}
}

// P2.4
func TestClamp(t *testing.T) {
	cases := []struct{ a, low, high, want api.Fix }{
		{3, 1, 5, 3},
		{1, 1, 5, 1},
		{0, 1, 5, 1},
		{5, 1, 5, 5},
		{6, 1, 5, 5},
		{low, -1, 1, -1},
		{top, -1, 1, 1},
		{top, low, top, top},
		{low, low, top, low},
		{7, 4, 4, 4},
		{1, 4, 4, 4},
		// low above high: high is looked at first.
		{6, 5, 1, 1},
		{3, 5, 1, 1},
		{2, 5, 1, 1},
		{1, 5, 1, 5},
		{0, 5, 1, 5},
		{0, top, low, low},
		{low, top, low, top},
	}
	for _, c := range cases {
		if got := fix.Clamp(c.a, c.low, c.high); got != c.want {
			t.Errorf("Clamp(%d, %d, %d) = %d, want %d", c.a, c.low, c.high, got, c.want)
		}
	}
}
