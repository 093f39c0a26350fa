package wide_test

import (
	"math"
	"testing"

	"regatta/api"
	"regatta/wide"
)

var (
	longTop    = api.Long{Top: most, Mid: ones, Low: ones} // 2^191 - 1
	longBottom = api.Long{Top: least}                      // -2^191
)

func long(n int64) api.Long {
	return wide.Extend(wide.Of(n))
}

// P1.6
func TestExtend(t *testing.T) {
	cases := []struct {
		a    api.Wide
		want api.Long
	}{
		{api.Wide{}, api.Long{}},
		{wide.Of(-1), api.Long{Top: -1, Mid: ones, Low: ones}},
		{top, api.Long{Mid: most, Low: ones}},
		{bottom, api.Long{Top: -1, Mid: 1 << 63}},
	}
	for _, c := range cases {
		if got := wide.Extend(c.a); got != c.want {
			t.Errorf("Extend(%v) = %v, want %v", c.a, got, c.want)
		}
	}
	for _, a := range wides() {
		if got := wide.Extend(a); bigOfLong(got).Cmp(bigOf(a)) != 0 {
			t.Fatalf("Extend(%v) = %v", a, got)
		}
	}
}

// P1.6
func TestPlus(t *testing.T) {
	cases := []struct{ a, b, want api.Long }{
		{long(-7), long(24), long(17)},
		{api.Long{Low: ones}, long(1), api.Long{Mid: 1}},
		{api.Long{Mid: ones, Low: ones}, long(1), api.Long{Top: 1}},
		{longTop, long(1), longBottom},
		{longBottom, long(-1), longTop},
		{longBottom, longBottom, api.Long{}},
		{longTop, longTop, long(-2)},
	}
	for _, c := range cases {
		if got := wide.Plus(c.a, c.b); got != c.want {
			t.Errorf("Plus(%v, %v) = %v, want %v", c.a, c.b, got, c.want)
		}
	}
	for _, a := range longs() {
		for _, b := range longs() {
			want := wrapped(new(bigInt).Add(bigOfLong(a), bigOfLong(b)), 192)
			if got := wide.Plus(a, b); bigOfLong(got).Cmp(want) != 0 {
				t.Fatalf("Plus(%v, %v) = %v, want %v", a, b, got, want)
			}
		}
	}
}

// P1.6
func TestNear(t *testing.T) {
	for _, a := range longs() {
		for n := range 192 {
			want, held := clampedBig(quotient(bigOfLong(a), power(n)))
			if got, over := wide.Near(a, n); got != want || over != held {
				t.Fatalf("Near(%v, %d) = %d, %v, want %d, %v", a, n, got, over, want, held)
			}
		}
		for _, n := range []int{math.MinInt, -64, -1} {
			want, held := clampedBig(bigOfLong(a))
			if got, over := wide.Near(a, n); got != want || over != held {
				t.Fatalf("Near(%v, %d) = %d, %v, want %d, %v", a, n, got, over, want, held)
			}
		}
		for _, n := range []int{192, 193, 255, 256, 1 << 32, math.MaxInt} {
			if got, over := wide.Near(a, n); got != 0 || over {
				t.Fatalf("Near(%v, %d) = %d, %v", a, n, got, over)
			}
		}
	}
}

// P1.6
func TestNearAtTheEdges(t *testing.T) {
	cases := []struct {
		a    api.Long
		n    int
		want int64
		over bool
	}{
		{long(5), 1, 2, false},
		{long(7), 1, 4, false},
		{long(-5), 1, -2, false},
		{long(17), 1, 8, false},
		{long(most), 0, most, false},
		{long(least), 0, least, false},
		{api.Long{Low: 1 << 63}, 0, most, true},
		{api.Long{Top: -1, Mid: ones, Low: most}, 0, least, true},
		// Rounded first and clamped then: 2^63 - 1/4 goes up past the end, 2^63 - 3/4 down to it.
		{api.Long{Mid: 1, Low: ones}, 2, most, true},
		{api.Long{Mid: 1, Low: ones - 2}, 2, most, false},
		{api.Long{Low: ones}, 1, most, true},
		{api.Long{Low: ones - 1}, 1, most, false},
		// -2^63 - 1/2 goes to the even one, which is the end itself; a step below it goes past.
		{api.Long{Top: -1, Mid: ones - 1, Low: ones}, 1, least, false},
		{api.Long{Top: -1, Mid: ones - 1, Low: ones - 1}, 1, least, true},
		{api.Long{Top: 1}, 1, most, true},
		{api.Long{Top: 1}, 127, 2, false},
		{api.Long{Top: 1}, 128, 1, false},
		{api.Long{Top: 1}, 129, 0, false},
		{api.Long{Top: 1, Low: 1}, 129, 1, false},
		{api.Long{Top: 3}, 129, 2, false},
		{longTop, 191, 1, false},
		{longBottom, 191, -1, false},
		{api.Long{Top: 1 << 62}, 191, 0, false},
		{api.Long{Top: 1 << 62, Low: 1}, 191, 1, false},
		{api.Long{Top: -1 << 62}, 191, 0, false},
		{longTop, 128, most, true},
		{api.Long{Top: most, Mid: most, Low: ones}, 128, most, false},
		{api.Long{Top: most, Mid: 1 << 63}, 128, most, true},
		{longBottom, 128, least, false},
		{longTop, 0, most, true},
		{longBottom, 0, least, true},
		{longBottom, 127, least, true},
	}
	for _, c := range cases {
		if got, over := wide.Near(c.a, c.n); got != c.want || over != c.over {
			t.Errorf("Near(%v, %d) = %d, %v, want %d, %v", c.a, c.n, got, over, c.want, c.over)
		}
	}
}

// P1.6
func TestRoot(t *testing.T) {
	for _, a := range longs() {
		want, held := rootBig(bigOfLong(a))
		if got, over := wide.Root(a); got != want || over != held {
			t.Fatalf("Root(%v) = %d, %v, want %d, %v", a, got, over, want, held)
		}
	}
}

// P1.6
func TestRootOfSquares(t *testing.T) {
	for _, n := range int64s() {
		if n < 1 {
			continue
		}
		square := wide.Extend(wide.Mul(n, n))
		if got, over := wide.Root(square); got != n || over {
			t.Fatalf("Root(%d squared) = %d, %v", n, got, over)
		}
		if got, over := wide.Root(wide.Plus(square, long(-1))); got != n-1 || over {
			t.Fatalf("Root(%d squared - 1) = %d, %v", n, got, over)
		}
	}
}

// P1.6
func TestRootAtTheEdges(t *testing.T) {
	cases := []struct {
		a    api.Long
		want int64
		over bool
	}{
		{long(17), 4, false},
		{long(0), 0, false},
		{long(1), 1, false},
		{long(3), 1, false},
		{long(-1), 0, true},
		{longBottom, 0, true},
		{api.Long{Mid: 1<<62 - 1, Low: ones}, most, false}, // 2^126 - 1
		{api.Long{Mid: 1 << 62}, most, true},               // 2^126
		{api.Long{Mid: ones}, most, true},
		{api.Long{Top: 1}, most, true},
		{longTop, most, true},
	}
	for _, c := range cases {
		if got, over := wide.Root(c.a); got != c.want || over != c.over {
			t.Errorf("Root(%v) = %d, %v, want %d, %v", c.a, got, over, c.want, c.over)
		}
	}
}
