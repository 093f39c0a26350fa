package adamw_test

import (
	"math"
	"testing"

	"regatta/api"
)

// greedy is an inner by which each step would hold something, if it were made.
func greedy() api.Inner {
	return api.Inner{Rate: base(top), Beta1: half, Beta2: half, Eps: 1, Decay: top, Clip: one}
}

// shaped is a step whose lists have so many parts: those of M, V, p and g.
func shaped(x api.Inner, parts [4]int, made int) task {
	return task{x, state(full(parts[0], top), full(parts[1], low), made), full(parts[2], top), full(parts[3], low)}
}

// wrongTimes are numbers of steps behind which none is made.
func wrongTimes() []int {
	return []int{math.MinInt, -2, -1, api.MaxSteps, api.MaxSteps + 1, math.MaxInt}
}

// P9.2: an inner that isn't right comes ahead of all else.
func TestWrongInners(t *testing.T) {
	for _, x := range wrongInners() {
		checkRefused(t, "all else right", shaped(x, [4]int{2, 2, 2, 2}, 0), api.ErrRule)
		checkRefused(t, "no part", shaped(x, [4]int{}, 0), api.ErrRule)
		checkRefused(t, "unlike", shaped(x, [4]int{1, 2, 2, 2}, 0), api.ErrRule)
		checkRefused(t, "no such step", shaped(x, [4]int{2, 2, 2, 2}, -1), api.ErrRule)
		checkRefused(t, "no step behind the last", shaped(x, [4]int{2, 2, 2, 2}, api.MaxSteps), api.ErrRule)
		checkRefused(t, "unlike, and no such step", shaped(x, [4]int{2, 2, 2, 1}, math.MaxInt), api.ErrRule)
	}
	long := api.MaxDim + 1
	for _, x := range []api.Inner{{}, with(func(x *api.Inner) { x.Clip = -1 })} {
		checkRefused(t, "too long", shaped(x, [4]int{long, long, long, long}, 0), api.ErrRule)
		checkRefused(t, "all wrong", shaped(x, [4]int{2, long, 1, 0}, -1), api.ErrRule)
	}
}

// P9.2: then a list past the limit: each of them by itself, and all of them.
func TestTooLong(t *testing.T) {
	most, long := api.MaxDim, api.MaxDim+1
	for i := range 4 {
		for _, others := range []int{0, 1, most} {
			for _, made := range []int{0, -1, api.MaxSteps} {
				parts := [4]int{others, others, others, others}
				parts[i] = long
				checkRefused(t, "one too long", shaped(greedy(), parts, made), api.ErrBig)
			}
		}
		parts := [4]int{long, long, long, long}
		parts[i] = 3
		checkRefused(t, "all but one too long", shaped(greedy(), parts, 0), api.ErrBig)
	}
	checkRefused(t, "all too long", shaped(greedy(), [4]int{long, long, long, long}, 0), api.ErrBig)
	checkRefused(t, "all far too long", shaped(greedy(), [4]int{2 * long, 2 * long, 2 * long, 2 * long}, -1), api.ErrBig)
	if got := shaped(greedy(), [4]int{most, most, most, most}, 0).step(nil); got.e != api.OK || len(got.p) != most {
		t.Error("as long as may be", got.e, len(got.p))
	}
}

// P9.2: then lists that have not as many parts: each of them by itself longer and shorter.
func TestUnlike(t *testing.T) {
	most := api.MaxDim
	for i := range 4 {
		for _, c := range [][2]int{{0, 1}, {1, 0}, {1, 2}, {2, 1}, {3, 0}, {0, 3}, {4, 5}, {5, 4}, {most, most - 1}, {most - 1, most}} {
			for _, made := range []int{0, 7, -1, api.MaxSteps, math.MinInt, math.MaxInt} {
				parts := [4]int{c[0], c[0], c[0], c[0]}
				parts[i] = c[1]
				checkRefused(t, "one unlike", shaped(greedy(), parts, made), api.ErrShape)
			}
		}
	}
	for _, parts := range [][4]int{{1, 1, 2, 2}, {1, 2, 1, 2}, {2, 1, 1, 2}, {0, 1, 2, 3}, {3, 2, 1, 0}, {1, 2, 2, 1}} {
		checkRefused(t, "several unlike", shaped(greedy(), parts, 0), api.ErrShape)
	}
}

// P9.2: then how many steps were made.
func TestWrongTimes(t *testing.T) {
	for _, made := range wrongTimes() {
		for _, n := range []int{0, 1, 2, 5, api.MaxDim} {
			checkRefused(t, "no such step", shaped(greedy(), [4]int{n, n, n, n}, made), api.ErrArg)
		}
	}
	for _, made := range []int{0, 1, api.MaxSteps - 2, api.MaxSteps - 1} {
		for _, n := range []int{0, 1, 2} {
			checkModel(t, "a step", shaped(greedy(), [4]int{n, n, n, n}, made))
		}
	}
}
