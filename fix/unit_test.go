package fix_test

import (
	"testing"

	"regatta/api"
	"regatta/fix"
	"regatta/wide"
)

// P2.7: the count after each call, one by one.
func TestUnitCounts(t *testing.T) {
	beyond := api.Long{Mid: 1}
	below := api.Long{Top: -1, Mid: 1<<64 - 2}
	var u fix.Unit
	if u.Count() != 0 {
		t.Fatalf("Unit{} has counted %d", u.Count())
	}
	calls := []struct {
		call  string
		got   func() api.Fix
		want  api.Fix
		count int
	}{
		{"Take(5, false)", func() api.Fix { return u.Take(5, false) }, 5, 0},
		{"Take(-5, true)", func() api.Fix { return u.Take(-5, true) }, -5, 1},
		{"Add(1, 2)", func() api.Fix { return u.Add(1, 2) }, 3, 1},
		{"Add(top, 1)", func() api.Fix { return u.Add(top, 1) }, top, 2},
		{"Add(top, 0)", func() api.Fix { return u.Add(top, 0) }, top, 2},
		{"Sub(3, 1)", func() api.Fix { return u.Sub(3, 1) }, 2, 2},
		{"Sub(low, 1)", func() api.Fix { return u.Sub(low, 1) }, low, 3},
		{"Mul(1, 2)", func() api.Fix { return u.Mul(one, 2*one) }, 2 * one, 3},
		{"Mul(low, low)", func() api.Fix { return u.Mul(low, low) }, top, 4},
		{"Div(1, 2)", func() api.Fix { return u.Div(one, 2*one) }, half, 4},
		{"Div(-1 step, 0)", func() api.Fix { return u.Div(-1, 0) }, low, 5},
		{"Div(0, 0)", func() api.Fix { return u.Div(0, 0) }, 0, 6},
		{"By(7 steps, 2)", func() api.Fix { return u.By(7, 2) }, 4, 6},
		{"By(low, -1)", func() api.Fix { return u.By(low, -1) }, top, 7},
		{"By(0, 0)", func() api.Fix { return u.By(0, 0) }, 0, 8},
		{"Sqrt(4)", func() api.Fix { return u.Sqrt(4 * one) }, 2 * one, 8},
		{"Sqrt(-1 step)", func() api.Fix { return u.Sqrt(-1) }, 0, 9},
		{"Near(5, 1)", func() api.Fix { return u.Near(api.Long{Low: 5}, 1) }, 2, 9},
		{"Near(2^64, 2)", func() api.Fix { return u.Near(beyond, 2) }, 1 << 62, 9},
		{"Near(2^64, 1)", func() api.Fix { return u.Near(beyond, 1) }, top, 10},
		{"Near(-2^65, 1)", func() api.Fix { return u.Near(below, 1) }, low, 11},
		{"Near(-2^65, 2)", func() api.Fix { return u.Near(below, 2) }, low, 11},
		{"Near(2^64, -1)", func() api.Fix { return u.Near(beyond, -1) }, top, 12},
		{"Near(2^64, 192)", func() api.Fix { return u.Near(beyond, 192) }, 0, 12},
	}
	for _, c := range calls {
		if got := c.got(); got != c.want || u.Count() != c.count {
			t.Fatalf("%s = %d, counted %d, want %d, counted %d", c.call, got, u.Count(), c.want, c.count)
		}
	}
}

// P2.7
func TestClear(t *testing.T) {
	u := &fix.Unit{}
	u.Clear()
	if u.Count() != 0 {
		t.Fatalf("a new one cleared has counted %d", u.Count())
	}
	u.Div(1, 0)
	u.Div(1, 0)
	u.Clear()
	if u.Count() != 0 {
		t.Fatalf("cleared, it has counted %d", u.Count())
	}
	u.Sqrt(-1)
	if u.Count() != 1 {
		t.Fatalf("used again, it has counted %d, want 1", u.Count())
	}
}

// P2.7: each unit counts its own.
func TestUnitsApart(t *testing.T) {
	var u, v fix.Unit
	u.Add(top, 1)
	v.Add(top, 1)
	v.Add(low, -1)
	if u.Count() != 1 || v.Count() != 2 {
		t.Fatalf("counted %d and %d, want 1 and 2", u.Count(), v.Count())
	}
	u.Clear()
	if u.Count() != 0 || v.Count() != 2 {
		t.Fatalf("one cleared: %d and %d, want 0 and 2", u.Count(), v.Count())
	}
}

// answers of one call: what the function answers, a unit, and a nil one.
type answers struct {
	call            string
	want            result
	counted, silent api.Fix
}

func callAll(u *fix.Unit, a, b api.Fix) []answers {
	var none *fix.Unit
	long, n := api.Long{Top: int64(b) >> 40, Mid: uint64(a), Low: uint64(b)}, int(uint64(a)%200)
	near, over := wide.Near(long, n)
	return []answers{
		{"Add", pair(fix.Add(a, b)), u.Add(a, b), none.Add(a, b)},
		{"Sub", pair(fix.Sub(a, b)), u.Sub(a, b), none.Sub(a, b)},
		{"Mul", pair(fix.Mul(a, b)), u.Mul(a, b), none.Mul(a, b)},
		{"Div", pair(fix.Div(a, b)), u.Div(a, b), none.Div(a, b)},
		{"By", pair(fix.By(a, int(b))), u.By(a, int(b)), none.By(a, int(b))},
		{"Sqrt", pair(fix.Sqrt(a)), u.Sqrt(a), none.Sqrt(a)},
		{"Near", result{api.Fix(near), over}, u.Near(long, n), none.Near(long, n)},
		{"Take", result{a, true}, u.Take(a, true), none.Take(a, true)},
		{"Take", result{a, false}, u.Take(a, false), none.Take(a, false)},
	}
}

// P2.7: a unit, be it nil, answers what the functions do, and counts what they hold.
func TestUnitAnswersAsTheFunctions(t *testing.T) {
	u, held := &fix.Unit{}, 0
	for _, a := range fixes() {
		for _, b := range fixes() {
			for _, c := range callAll(u, a, b) {
				if c.counted != c.want.x || c.silent != c.want.x {
					t.Fatalf("%s of %d and %d: a unit answers %d, a nil one %d, want %d", c.call, a, b, c.counted, c.silent, c.want.x)
				}
				if c.want.over {
					held++
				}
			}
		}
	}
	if u.Count() != held {
		t.Fatalf("counted %d, want %d", u.Count(), held)
	}
}

// P2.7
func TestNilUnit(t *testing.T) {
	var none *fix.Unit
	if got := none.Take(7, true); got != 7 {
		t.Fatalf("Take(7, true) = %d", got)
	}
	if got := none.Div(1, 0); got != top {
		t.Fatalf("Div(1, 0) = %d", got)
	}
	if none.Count() != 0 {
		t.Fatalf("counted %d", none.Count())
	}
	none.Clear()
	if none.Count() != 0 {
		t.Fatalf("cleared, counted %d", none.Count())
	}
}
