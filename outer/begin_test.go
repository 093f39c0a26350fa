package outer_test

import (
	"slices"
	"testing"

	"regatta/api"
	"regatta/outer"
)

// P10.1: of no part, of one, of several, and of as many as there may be.
func TestBegin(t *testing.T) {
	for _, p := range [][]api.Fix{nil, {}, {0}, {7}, {low}, {one, -half, top, low, 0, 3}, full(api.MaxDim-1, -5), full(api.MaxDim, top)} {
		if o, e := outer.Begin(p); e != api.OK || !slices.Equal(o.P, p) || !slices.Equal(o.B, full(len(p), 0)) {
			t.Errorf("Begin(%v, %d parts): %d, %v", short(p), len(p), e, told{o, e}.brief())
		}
	}
}

// P10.1: of one part more than there may be, and of many more.
func TestBeginTooLong(t *testing.T) {
	for _, n := range []int{api.MaxDim + 1, api.MaxDim + 2, 2 * api.MaxDim} {
		for _, x := range list(0, 1, top) {
			if o, e := outer.Begin(full(n, x)); e != api.ErrBig || o.P != nil || o.B != nil {
				t.Errorf("Begin of %d parts: %d, %v", n, e, told{o, e}.brief())
			}
		}
	}
}

// P10.1: of what lies behind the end nothing is looked at, nor counted as a part.
func TestBeginWithRoomBehind(t *testing.T) {
	long := full(api.MaxDim+5, 9)
	for _, n := range []int{0, 1, 3, api.MaxDim} {
		if o, e := outer.Begin(long[:n]); e != api.OK || !slices.Equal(o.P, full(n, 9)) || !slices.Equal(o.B, full(n, 0)) {
			t.Errorf("Begin of %d parts: %d, %v", n, e, told{o, e}.brief())
		}
	}
}

// P10.1: part by part, where it began less where it came to; reckoned outside of the program.
func TestDeltaByHand(t *testing.T) {
	for _, c := range []struct{ start, end, want []api.Fix }{
		{nil, nil, nil},
		{list(), nil, nil},
		{nil, list(), nil},
		{list(5 * one), list(3 * one), list(2 * one)},
		{list(3 * one), list(5 * one), list(-2 * one)},
		{list(1), list(1), list(0)},
		{list(one, -one, 7, -7, 0, half), list(half, half, -8, -9, 3, half), list(half, -one-half, 15, 2, -3, 0)},
		{list(top, low, top, low), list(0, 0, top, low), list(top, low, 0, 0)},
		{list(-1, 0, top, -2), list(low, -top, 1, top-1), list(top, top, top-1, low)},
	} {
		checkDelta(t, "by hand", c.start, c.end, c.want, api.OK, 0)
	}
}

// P10.1: held at either end, each part counted, and just not.
func TestDeltaHeld(t *testing.T) {
	for _, c := range []struct {
		start, end, want []api.Fix
		held             int
	}{
		{list(0), list(low), list(top), 1},
		{list(-1), list(low), list(top), 0},
		{list(top), list(-1), list(top), 1},
		{list(top), list(0), list(top), 0},
		{list(low), list(1), list(low), 1},
		{list(low), list(0), list(low), 0},
		{list(-2), list(top), list(low), 1},
		{list(-1), list(top), list(low), 0},
		{list(top), list(low), list(top), 1},
		{list(low), list(top), list(low), 1},
		{list(top, one, low, 0, low), list(low, half, top, low, low), list(top, half, low, top, 0), 3},
	} {
		checkDelta(t, "held", c.start, c.end, c.want, api.OK, c.held)
	}
}

// P10.1
func TestDeltasOfAllKinds(t *testing.T) {
	r := shuffled(1)
	for range 20000 {
		n := r.IntN(6)
		start, end := vectorOf(r, n), vectorOf(r, n)
		m := &model{}
		want := m.delta(start, end)
		checkDelta(t, "of any kind", start, end, want, api.OK, m.held)
	}
	most := api.MaxDim
	checkDelta(t, "as long as may be", full(most, 3), full(most, 5), full(most, -2), api.OK, 0)
	checkDelta(t, "as long as may be, held", full(most, top), full(most, low), full(most, top), api.OK, most)
}

// P10.1: too long comes ahead of unlike; beside both nothing is counted.
func TestDeltaRefused(t *testing.T) {
	most, long := api.MaxDim, api.MaxDim+1
	for _, c := range []struct {
		start, end int
		e          api.Errno
	}{
		{long, long, api.ErrBig}, {long, most, api.ErrBig}, {most, long, api.ErrBig},
		{long, 0, api.ErrBig}, {0, long, api.ErrBig}, {2 * long, 3, api.ErrBig}, {3, 2 * long, api.ErrBig},
		{0, 1, api.ErrShape}, {1, 0, api.ErrShape}, {1, 2, api.ErrShape}, {2, 1, api.ErrShape}, {5, 3, api.ErrShape},
		{most, most - 1, api.ErrShape}, {most - 1, most, api.ErrShape}, {0, most, api.ErrShape},
	} {
		checkDelta(t, "refused", full(c.start, top), full(c.end, low), nil, c.e, 0)
	}
}
