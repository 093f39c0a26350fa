package outer_test

import (
	"testing"

	"regatta/api"
)

// shaped is a step whose lists have so many parts, those of P, B and g, and which would hold something, if it were made.
func shaped(rate, moment api.Fix, parts [3]int) task {
	return task{rate, moment, outerOf(full(parts[0], top), full(parts[1], low)), full(parts[2], low)}
}

// greedy is such a step with settings that are right.
func greedy(parts [3]int) task { return shaped(top, one-1, parts) }

func wrongRates() []api.Fix { return list(-1, -2, -half, -one, low+1, low) }

func wrongMoments() []api.Fix { return list(-1, -half, -one, low, one, one+1, 2*one, top) }

// P10.2: a rate or a moment that isn't right comes ahead of all else.
func TestWrongRule(t *testing.T) {
	long := api.MaxDim + 1
	shapes := [][3]int{{2, 2, 2}, {}, {1, 1, 1}, {1, 2, 2}, {2, 1, 2}, {2, 2, 1}, {0, 0, 1}, {long, long, long}, {2, long, 1}}
	for _, parts := range shapes {
		for _, rate := range wrongRates() {
			for _, moment := range list(0, half, one-1) {
				checkRefused(t, "the rate", shaped(rate, moment, parts), api.ErrRule)
			}
		}
		for _, moment := range wrongMoments() {
			for _, rate := range list(0, one, top) {
				checkRefused(t, "the moment", shaped(rate, moment, parts), api.ErrRule)
			}
			checkRefused(t, "both", shaped(-1, moment, parts), api.ErrRule)
		}
	}
}

// P10.2: the ends of both, at which they are right.
func TestRightRule(t *testing.T) {
	for _, rate := range list(0, 1, half, one, one+1, top-1, top) {
		for _, moment := range list(0, 1, half, one-2, one-1) {
			for _, n := range []int{0, 1, 2, 5} {
				checkModel(t, "right", shaped(rate, moment, [3]int{n, n, n}))
			}
		}
	}
}

// P10.2: then a list past the limit: each of them by itself, all but one, and all of them.
func TestTooLong(t *testing.T) {
	most, long := api.MaxDim, api.MaxDim+1
	for i := range 3 {
		for _, others := range []int{0, 1, 2, most - 1, most} {
			parts := [3]int{others, others, others}
			parts[i] = long
			checkRefused(t, "one too long", greedy(parts), api.ErrBig)
			parts[i] = 2 * long
			checkRefused(t, "one far too long", greedy(parts), api.ErrBig)
		}
		for _, fewer := range []int{0, 1, 3, most} {
			parts := [3]int{long, long, long}
			parts[i] = fewer
			checkRefused(t, "all but one too long", greedy(parts), api.ErrBig)
		}
	}
	checkRefused(t, "all too long", greedy([3]int{long, long, long}), api.ErrBig)
	checkRefused(t, "all too long, and unlike", greedy([3]int{long, long + 1, long + 2}), api.ErrBig)
	checkModel(t, "as long as may be", greedy([3]int{most, most, most}))
}

// P10.2: then lists that have not as many parts: each of them by itself longer and shorter.
func TestUnlike(t *testing.T) {
	most := api.MaxDim
	for i := range 3 {
		for _, c := range [][2]int{{0, 1}, {1, 0}, {1, 2}, {2, 1}, {3, 0}, {0, 3}, {4, 5}, {5, 4}, {most, most - 1}, {most - 1, most}, {0, most}, {most, 0}} {
			parts := [3]int{c[0], c[0], c[0]}
			parts[i] = c[1]
			checkRefused(t, "one unlike", greedy(parts), api.ErrShape)
		}
	}
	for _, parts := range [][3]int{{0, 1, 2}, {2, 1, 0}, {1, 0, 2}, {3, 5, 4}, {0, 2, 1}} {
		checkRefused(t, "all unlike", greedy(parts), api.ErrShape)
	}
	checkRefused(t, "a plain outer", task{one, half, api.Outer{}, list(1)}, api.ErrShape)
}
