package outer_test

import (
	"testing"

	"regatta/api"
)

// single is a step of one part.
func single(rate, moment, p, b, g api.Fix) task {
	return task{rate, moment, outerOf(list(p), list(b)), list(g)}
}

// P10.2: b beyond its end, and just at it; reckoned outside of the program. Where b is held, d is always: b is then at an end, no nearer to nought than B.
func TestHeldMomentumByHand(t *testing.T) {
	checkByHand(t, []byHand{
		{"b, and d by it", single(one, half, 0, 2, top), list(-top), list(top), 2},
		{"b by a half step", single(one, half, 0, 1, top), list(-top), list(top), 2},
		{"b just not", single(one, quarter, 0, 1, top), list(-top), list(top), 1},
		{"b just not, below the end", single(one, half, 0, -1, top), list(-top), list(top - 1), 1},
		{"b below, and d by it", single(one, half, -1, -2, low), list(top), list(low), 2},
		{"b below by more than a half step", single(one, half+1, -1, -1, low), list(top), list(low), 2},
		{"b below, just not", single(one, half, -1, -1, low), list(top), list(low), 1},
		{"both ends", single(one, one-1, 0, top, top), list(-top), list(top), 2},
		{"both ends, below", single(one, one-1, -1, low, low), list(top), list(low), 2},
		{"ends that are across", single(one, one-1, 0, low, top), list(-top), list(half - 1), 1},
	})
}

// P10.2: d beyond its end, and just at it; reckoned outside of the program.
func TestHeldMoveByHand(t *testing.T) {
	const most = api.Fix(6148914691236517205) // two thirds of the range
	checkByHand(t, []byHand{
		{"d, unseen", single(0, half, 0, 0, top), list(0), list(top), 1},
		{"d just held", single(one, half, 0, 0, most), list(-top), list(most), 1},
		{"d just not", single(one, half, 0, 0, most-1), list(-top + 1), list(most - 1), 0},
		{"d below, just held", single(one, half, -1, 0, -most-1), list(top), list(-most - 1), 1},
		{"d below, just not", single(one, half, -1, 0, -most), list(top), list(-most), 0},
		{"P goes by what d was held to", single(2*one, half, top, 0, top), list(-top), list(top), 1},
	})
}

// P10.2: P beyond its end, and just at it; reckoned outside of the program. Only at its end: rate · d alone may be beyond.
func TestHeldParametersByHand(t *testing.T) {
	const far = api.Fix(1 << 62)
	checkByHand(t, []byHand{
		{"above", single(one, 0, top, 0, -1), list(top), list(-1), 1},
		{"above, just not", single(one, 0, top-1, 0, -1), list(top), list(-1), 0},
		{"above by a half step", single(half, 0, top, 0, -1), list(top), list(-1), 1},
		{"above by less", single(half-1, 0, top, 0, -1), list(top), list(-1), 0},
		{"at a half step below the end", single(half, 0, top-1, 0, -1), list(top - 1), list(-1), 0},
		{"below", single(one, 0, low, 0, 1), list(low), list(1), 1},
		{"below, just not", single(one, 0, low+1, 0, 1), list(low), list(1), 0},
		{"below by a half step", single(half, 0, low, 0, 1), list(low), list(1), 0},
		{"below by more", single(half+1, 0, low, 0, 1), list(low), list(1), 1},
		{"far above", single(top, 0, 0, 0, low), list(top), list(low), 1},
		{"far below", single(top, 0, 0, 0, top), list(low), list(top), 1},
		{"from the least by the least", single(one, 0, low, 0, low), list(0), list(low), 0},
		{"from the greatest by the greatest", single(one, 0, top, 0, top), list(0), list(top), 0},
		{"by twice what is far", single(2*one, 0, top, 0, far), list(-1), list(far), 0},
		{"by twice the greatest", single(2*one, 0, top, 0, top), list(-top), list(top), 0},
		{"by twice the greatest, just held", single(2*one, 0, top-2, 0, top), list(low), list(top), 1},
		{"by twice the least", single(2*one, 0, low, 0, low), list(top), list(low), 1},
		{"by twice what is far below", single(2*one, 0, 0, 0, -far), list(top), list(-far), 1},
		{"by twice what is far below, just not", single(2*one, 0, -1, 0, -far), list(top), list(-far), 0},
		{"by the greatest rate, just not", single(top, 0, -1, 0, one), list(low), list(one), 0},
		{"by the greatest rate, just held", single(top, 0, -2, 0, one), list(low), list(one), 1},
		{"by the greatest rate, above, just not", single(top, 0, 0, 0, -one), list(top), list(-one), 0},
		{"by the greatest rate, above, just held", single(top, 0, 1, 0, -one), list(top), list(-one), 1},
	})
}

// P10.2: all three at once, and each part counts for itself; reckoned outside of the program.
func TestAllHeldByHand(t *testing.T) {
	checkByHand(t, []byHand{
		{"all", single(one, one-1, low, top, top), list(low), list(top), 3},
		{"all, at the other end", single(one, one-1, top, low, low), list(top), list(low), 3},
		{"b and d, and P by a step", single(one, half, 0, -2, low), list(top), list(low), 3},
		{"d and P", task{one, half, still(-1, -2, 1), list(top, top, low)}, list(low, low, top), list(top, top, low), 5},
		{"several", task{top, one - 1, outerOf(list(low, 0, top, low), list(top, 0, low, 0)), list(top, 0, low, one)},
			list(low, 0, top, low), list(top, 0, low, one), 7},
	})
}
