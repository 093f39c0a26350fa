package outer_test

import (
	"slices"
	"testing"

	"regatta/api"
	"regatta/fix"
	"regatta/outer"
)

// alone is the outer step by the delta of one worker alone, with the rate One and no moment.
func alone(t *testing.T, u *fix.Unit, o api.Outer, end []api.Fix) api.Outer {
	t.Helper()
	g, e := outer.Delta(u, o.P, end)
	if e != api.OK {
		t.Fatal(e)
	}
	next, e := outer.Step(u, one, 0, o, g)
	if e != api.OK || !slices.Equal(next.B, g) {
		t.Fatal(e, next.B, g)
	}
	return next
}

// checkAlone wants the parameters just where the worker came to, and nothing counted.
func checkAlone(t *testing.T, o api.Outer, end []api.Fix) api.Outer {
	t.Helper()
	u := counted()
	next := alone(t, u, o, end)
	if !slices.Equal(next.P, end) || u.Count() != 1 {
		t.Fatalf("from %v to %v: %v, counted %d", short(o.P), short(end), short(next.P), u.Count()-1)
	}
	return next
}

// P10.3: ordinary numbers, and those whose delta is just not held, from whatever momentum.
func TestOneWorker(t *testing.T) {
	starts := list(0, 10*one, 1, -1, 7, half, top, top, low, low, -1, -1, 0, top, low)
	ends := list(0, 4*one, -1, 1, 7, -one, 0, top, 0, low, low, top, -top, 1, -1)
	for _, b := range list(0, 1, -one, top, low) {
		checkAlone(t, outerOf(starts, full(len(starts), b)), ends)
		for i := range starts {
			checkAlone(t, outerOf(starts[i:i+1], list(b)), ends[i:i+1])
		}
	}
	checkAlone(t, api.Outer{}, nil)
}

// P10.3: one behind the other, each from where the one ahead came to.
func TestOneWorkerForLong(t *testing.T) {
	r := shuffled(6)
	for range 500 {
		n := r.IntN(6)
		o, e := outer.Begin(tame(vectorOf(r, n)))
		if e != api.OK {
			t.Fatal(e)
		}
		for range 20 {
			o = checkAlone(t, o, tame(vectorOf(r, n)))
		}
	}
	most := api.MaxDim
	checkAlone(t, still(tame(vectorOf(r, most))...), tame(vectorOf(r, most)))
}

// tame brings the parts so near to nought that the delta of any two is not held.
func tame(a []api.Fix) []api.Fix {
	for i := range a {
		a[i] >>= 1
	}
	return a
}

// P10.3: where the delta is held, the parameters come only as far as it goes.
func TestOneWorkerHeld(t *testing.T) {
	for _, c := range []struct{ start, end, p api.Fix }{
		{0, low, -top},
		{top, low, 0},
		{low, top, 0},
		{top, -1, 0},
		{low, 1, 0},
		{-2, top, top - 1},
	} {
		u := &fix.Unit{}
		if o := alone(t, u, still(c.start), list(c.end)); o.P[0] != c.p || u.Count() != 1 {
			t.Errorf("from %d to %d: %d, counted %d", c.start, c.end, o.P[0], u.Count())
		}
	}
}
