package mlp_test

import (
	"testing"

	"regatta/api"
)

// of is outputs, their targets, and what both losses' calls answer and count of them.
type of struct {
	name      string
	y, t      []api.Fix
	far       api.Fix
	farHeld   int
	slope     []api.Fix
	slopeHeld int
}

func checkLoss(t *testing.T, kind int, cases []of) {
	t.Helper()
	for _, c := range cases {
		checkTold(t, "Loss: "+c.name, loss(kind, c.y, c.t), told{number: int64(c.far)}, c.farHeld)
		checkTold(t, "Slope: "+c.name, slope(kind, c.y, c.t), told{lists: lists(c.slope)}, c.slopeHeld)
	}
}

// P7.4
func TestSquaredByHand(t *testing.T) {
	checkLoss(t, api.Squared, []of{
		{"the chapter's", list(6 * one), list(4 * one), 2 * one, 0, list(2 * one), 0},
		{"no part", nil, nil, 0, 0, nil, 0},
		{"no part, made", list(), list(), 0, 0, nil, 0},
		{"met", list(3*one, -one), list(3*one, -one), 0, 0, list(0, 0), 0},
		{"below its target", list(one), list(4 * one), 9 * half, 0, list(-3 * one), 0},
		{"several parts", list(one, 2*one, -3*one), list(-one, 2*one, one), 10 * one, 0, list(2*one, 0, -4*one), 0},
		{"half a step to the even one", list(1 << 16), list(0), 0, 0, list(1 << 16), 0},
		{"a step and a half to the even one", list(1<<16, 1<<16, 1<<16), list(0, 0, 0), 2, 0, list(1<<16, 1<<16, 1<<16), 0},
		{"two halves, rounded once", list(1<<16, 0), list(0, 1<<16), 1, 0, list(1<<16, -1<<16), 0},
		{"hardly more than half a step, rounded once", list(1<<16, 1), list(0, 0), 1, 0, list(1<<16, 1), 0},
	})
}

// P7.4: d of each part, and the sum, are counted.
func TestSquaredThatIsHeld(t *testing.T) {
	checkLoss(t, api.Squared, []of{
		{"d above", list(top), list(-1), top, 2, list(top), 1},
		{"d below", list(low), list(1), top, 2, list(low), 1},
		{"d an end by itself", list(top), list(0), top, 1, list(top), 0},
		{"d the lower end by itself", list(low), list(0), top, 1, list(low), 0},
		{"the ends against each other", list(top, low), list(low, top), top, 3, list(top, low), 2},
		{"one d among others", list(top, one), list(low, 0), top, 2, list(top, one), 1},
		// 65536 squared, by two, is one step beyond the upper end.
		{"the sum one step above", list(65536 * one), list(0), top, 1, list(65536 * one), 0},
		{"the sum just below", list(65536*one - 1), list(0), top - 65535, 0, list(65536*one - 1), 0},
	})
}

// P7.4: h is below 0, at 0 and above 0.
func TestHingeByHand(t *testing.T) {
	checkLoss(t, api.Hinge, []of{
		{"the chapter's", list(6 * one), list(one), 0, 0, list(0), 0},
		{"no part", nil, nil, 0, 0, nil, 0},
		{"no part, made", list(), list(), 0, 0, nil, 0},
		{"h is 0", list(one), list(one), 0, 0, list(0), 0},
		{"h is a step", list(one - 1), list(one), 1, 0, list(-one), 0},
		{"h is a step below 0", list(one + 1), list(one), 0, 0, list(0), 0},
		{"an output of 0", list(0), list(one), one, 0, list(-one), 0},
		{"a target of 0", list(5 * one), list(0), one, 0, list(0), 0},
		{"the other side", list(-3 * one), list(one), 4 * one, 0, list(-one), 0},
		{"a target below 0, met", list(-one), list(-one), 0, 0, list(0), 0},
		{"a target below 0, not met", list(half), list(-one), 3 * half, 0, list(one), 0},
		{"several parts", list(half, 2*one, -one, one), list(one, one, 2*one, one), 7 * half, 0, list(-one, 0, -2*one, 0), 0},
		{"a product rounded to the even one", list(3), list(half), one - 2, 0, list(-half), 0},
		{"a product rounded down to One", list(2*one + 1), list(half), 0, 0, list(0), 0},
	})
}

// P7.4: Mul, Sub and the sum are counted, and Neg just in Slope where h is above 0.
func TestHingeThatIsHeld(t *testing.T) {
	checkLoss(t, api.Hinge, []of{
		{"Neg", list(0), list(low), one, 0, list(top), 1},
		{"no Neg where h is below 0", list(-one), list(low), 0, 1, list(0), 1},
		{"no Neg where h is 0", list(-2), list(low), 0, 0, list(0), 0},
		{"Mul above", list(2 * one), list(top), 0, 1, list(0), 1},
		{"Mul below, and Sub", list(-2 * one), list(top), top, 2, list(-top), 2},
		{"Sub alone", list(one), list(low), top, 1, list(top), 2},
		{"all three", list(2 * one), list(low), top, 2, list(top), 3},
		{"the sum of two", list(-half, -half), list(top, top), top, 1, list(-top, -top), 0},
		{"the sum of two that are held", list(2*one, 2*one), list(low, low), top, 5, list(top, top), 6},
		{"one part among others", list(0, 2*one, one), list(one, low, one), top, 3, list(-one, top, 0), 3},
		{"h an end by itself", list(one), list(-(top - one)), top, 0, list(top - one), 0},
		{"those below 0 aren't summed", list(2*one, one, -one), list(top, low, one), top, 3, list(0, top, -one), 3},
	})
}

// P7.4
func TestLossesOfMixedOutputs(t *testing.T) {
	m := mixed(74)
	for i := range 6000 {
		kind := []int{api.Squared, api.Hinge}[i%2]
		n := m.IntN(6)
		y, to := vectorOf(m, n), vectorOf(m, n)
		far, way := &model{}, &model{}
		wantFar, wantSlope := far.loss(kind, y, to), way.slope(kind, y, to)
		checkLoss(t, kind, []of{{"mixed", y, to, wantFar, far.held, wantSlope, way.held}})
	}
}

// P7.4: as many parts as a vector may have.
func TestLossesOfManyOutputs(t *testing.T) {
	m := mixed(75)
	for _, kind := range []int{api.Squared, api.Hinge} {
		for _, v := range [][2][]api.Fix{
			{full(api.MaxDim, top), full(api.MaxDim, low)},
			{full(api.MaxDim, 1<<16), full(api.MaxDim, 0)},
			{vectorOf(m, api.MaxDim), vectorOf(m, api.MaxDim)},
			{full(api.MaxDim-1, low), full(api.MaxDim-1, top)},
		} {
			far, way := &model{}, &model{}
			wantFar, wantSlope := far.loss(kind, v[0], v[1]), way.slope(kind, v[0], v[1])
			checkLoss(t, kind, []of{{"many", v[0], v[1], wantFar, far.held, wantSlope, way.held}})
		}
	}
}
