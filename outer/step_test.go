package outer_test

import (
	"slices"
	"testing"

	"regatta/api"
	"regatta/outer"
)

const (
	tenth = api.Fix(429496730) // to the nearest step
	nine  = api.Fix(3865470566)
	seven = api.Fix(3006477107)
	third = one / 3
)

// P10.2: the chapter's examples, and others.
func TestStepByHand(t *testing.T) {
	checkByHand(t, []byHand{
		{"the first example", task{one, half, still(10 * one), list(4 * one)}, list(4 * one), list(4 * one), 0},
		{"the second one", task{one, half, outerOf(list(4*one), list(4*one)), list(4 * one)}, list(-3 * one), list(6 * one), 0},
		{"no part", task{one, half, still(), nil}, nil, nil, 0},
		{"several", task{tenth, nine, outerOf(list(one, -one, 5, 0), list(half, -3, 7, one)), list(4*one, -half, 3, -11)},
			list(856845972, -3886945402, 4, -347892349), list(19112604467, -2147483651, 9, 3865470555), 0},
		{"thirds", task{third, third, outerOf(list(one, 11, -613566757), list(one/7, -5, 6)), list(one/5, -13, one)},
			list(3890467731, 17, -2522441111), list(1063515711, -15, 4294967298), 0},
	})
}

// P10.2: each moment that there may be at its ends.
func TestMomentsByHand(t *testing.T) {
	checkByHand(t, []byHand{
		{"none", task{half, 0, outerOf(list(one, -7, 9), list(top, low, -5)), list(one, 3, -4*one)}, list(half, -8, 8589934601), list(one, 3, -4*one), 0},
		{"one step", task{one, 1, outerOf(list(0, 0, 0), list(half, half+1, top)), list(0, 0, 0)}, list(0, 0, 0), list(0, 1, half), 0},
		{"a half", task{one, half, outerOf(list(one, -7, 9), list(4*one, 3, -6)), list(0, 0, 0)}, list(0, -8, 11), list(2*one, 2, -3), 0},
		{"One less one", task{one, one - 1, outerOf(list(0, 0, 0, 0), list(one, -one, half, top)), list(1, -1, 0, 0)},
			list(-one, one, -half, -9223372032559808512), list(one, -one, half, 9223372034707292159), 0},
		{"One less one, less", task{one, one - 1, outerOf(list(0, 0, 0), list(one, -one, 3)), list(0, 1, -1)},
			list(-4294967294, 4294967292, -1), list(4294967295, -4294967294, 2), 0},
	})
}

// P10.2: each rate that there may be at its ends.
func TestRatesByHand(t *testing.T) {
	checkByHand(t, []byHand{
		{"nought", task{0, half, outerOf(list(one, -7, top, low), list(one, 3, -5, one)), list(one, one, 4, -one)},
			list(one, -7, top, low), list(6442450944, 4294967298, 2, -half), 0},
		{"one step", task{1, half, still(0, 0, 0), list(one, -one, 2*one)}, list(-2, 2, -3), list(one, -one, 2*one), 0},
		{"One", task{one, 0, still(5, -5, 0), list(3, 3, -3)}, list(2, -8, 3), list(3, 3, -3), 0},
		{"the greatest", task{top, 0, outerOf(list(0, 0), list(9, 9)), list(1, -1)}, list(-half, half), list(1, -1), 0},
		{"the greatest, with a moment", task{top, half, outerOf(list(5, -5, one, 0), list(2, -2, 0, 3)), list(1, -1, 0, 0)},
			list(-4294967291, 4294967291, one, -half), list(2, -2, 0, 2), 0},
	})
}

// P10.2: b, d and P are each exact until their end, and rounded once, halves to the even one; d is made of b as it was rounded.
func TestRoundingByHand(t *testing.T) {
	checkByHand(t, []byHand{
		{"halves of b", task{0, half, outerOf(full(6, 0), list(1, 3, -1, -3, 5, -5)), full(6, 0)}, full(6, 0), list(0, 2, 0, -2, 2, -2), 0},
		{"halves of b, beside an odd one", task{0, half, outerOf(full(4, 0), list(1, 3, -1, -3)), full(4, 1)}, full(4, 0), list(2, 2, 0, 0), 0},
		{"halves of d", task{one, half, still(0, 0, 0, 0, 0), list(1, 2, 3, -1, 5)}, list(-2, -3, -4, 2, -8), list(1, 2, 3, -1, 5), 0},
		{"d is made of what b became", task{one, 3 * quarter, outerOf(list(0, 0), list(2, -2)), list(0, 0)}, list(-2, 2), list(2, -2), 0},
		{"halves of P", task{half, 0, still(7, 7, 8, 8, 0, 0), list(1, 3, 1, 3, -1, -3)}, list(6, 6, 8, 6, 0, 2), list(1, 3, 1, 3, -1, -3), 0},
		{"halves of P, odd ones", task{half, 0, still(1, 2, -1), list(1, 1, 1)}, list(0, 2, -2), list(1, 1, 1), 0},
		{"P by the least rate", task{1, 0, still(7, 7, 7, 7, 7, 7, 7), list(half, half+1, half-1, 3*half, -half, -3*half, -half-1)},
			list(6, 6, 7, 6, 8, 8, 8), list(half, half+1, half-1, 3*half, -half, -3*half, -half-1), 0},
	})
}

// P10.2: one step behind another.
func TestRunByHand(t *testing.T) {
	o, e := outer.Begin(list(one, -2*one, 5))
	if e != api.OK {
		t.Fatal(e)
	}
	for _, c := range []struct{ g, b, p []api.Fix }{
		{list(one, -one, 3), list(4294967296, -4294967296, 3), list(-1417339207, -2877628089, 1)},
		{list(2*one, 2*one, 2*one), list(12455405158, 4724464026, 8589934595), list(-15277198669, -11866994639, -11424613007)},
		{list(0, 0, 0), list(11209864641, 4252017623, 7730941135), list(-22339413392, -14545765741, -16295105921)},
		{list(-one, half, 7), list(5793910880, 5974299508, 6957847028), list(-22983100138, -19812812984, -20678549553)},
		{list(5, -5, one), list(5214519796, 5376869552, 10557029621), list(-26268247612, -23200240797, -30335955320)},
		{list(0, 0, 0), list(4693067816, 4839182596, 9501326658), list(-29224880336, -26248925832, -36321791113)},
	} {
		checkTold(t, "a run", task{seven, nine, o, c.g}, told{o: outerOf(c.p, c.b)}, 0)
		o, _ = outer.Step(nil, seven, nine, o, c.g)
	}
}

// P10.2: steps one behind the other, each from what the one ahead answered.
func TestRunsOfAllKinds(t *testing.T) {
	r := shuffled(2)
	for range 300 {
		k := taskOf(r)
		for range 20 {
			checkModel(t, "a run", k)
			k.o = k.step(nil).o
			k.g = vectorOf(r, len(k.g))
		}
	}
}

// P10.2
func TestStepsOfAllKinds(t *testing.T) {
	r := shuffled(3)
	for range 60000 {
		checkModel(t, "a step", taskOf(r))
	}
}

// P10.2: rates and moments at their ends, over the edges of all numbers.
func TestEdges(t *testing.T) {
	edges := list(0, 1, -1, 2, 3, half, -half, one-1, one, -one, 1<<62, -1<<62, top-1, top, low, low+1)
	for _, rate := range list(0, 1, half-1, half, half+1, one-1, one, one+1, 2*one, top-1, top) {
		for _, moment := range list(0, 1, quarter, half-1, half, half+1, one-2, one-1) {
			for i := range edges {
				turned := slices.Concat(edges[i:], edges[:i])
				back := slices.Clone(turned)
				slices.Reverse(back)
				checkModel(t, "at the edges", task{rate, moment, outerOf(edges, turned), back})
				checkModel(t, "at the edges, turned", task{rate, moment, outerOf(back, edges), turned})
				checkModel(t, "at the edges, alike", task{rate, moment, outerOf(turned, edges), edges})
			}
		}
	}
}

// P10.2: as many parts as there may be; what becomes of each hangs on no other.
func TestLongLists(t *testing.T) {
	n := api.MaxDim
	checkModel(t, "long lists", task{seven, nine, outerOf(full(n, one), full(n, -3)), full(n, half)})
	checkModel(t, "long lists, all held", task{one, one - 1, outerOf(full(n, top), full(n, low)), full(n, low)})
	r := shuffled(4)
	checkModel(t, "long lists of all kinds", task{rateOf(r), momentOf(r), outerOf(vectorOf(r, n), vectorOf(r, n)), vectorOf(r, n)})
}

// P10.2: by a rate of nought the parameters stay, whatever is gathered.
func TestRateOfNought(t *testing.T) {
	r := shuffled(5)
	for range 2000 {
		k := taskOf(r)
		k.rate = 0
		if got := k.step(nil); got.e != api.OK || !slices.Equal(got.o.P, k.o.P) {
			t.Fatalf("%v: %v", k, got)
		}
		checkModel(t, "a rate of nought", k)
	}
}

// P10.2: by a delta of nought nothing moves that did not move ahead, and what did goes on, if there is a moment.
func TestDeltaOfNought(t *testing.T) {
	p := list(0, 1, -1, 12345, half, one, -one, top, low, top-1, low+1)
	n := len(p)
	for _, rate := range list(0, 1, half, one, top) {
		for _, moment := range list(0, 1, half, one-1) {
			checkTold(t, "nothing moves", task{rate, moment, still(p...), full(n, 0)}, told{o: still(p...)}, 0)
			checkModel(t, "it goes on", task{rate, moment, outerOf(p, full(n, 4*one)), full(n, 0)})
		}
		checkTold(t, "no moment", task{rate, 0, outerOf(p, full(n, low)), full(n, 0)}, told{o: still(p...)}, 0)
	}
}

// DOC.md's rule 5: what was asked ahead is of no matter.
func TestStepsDoNotHangTogether(t *testing.T) {
	k := task{seven, nine, outerOf(list(1, 2), list(one, -4)), list(one, -one)}
	first := k.step(nil)
	task{top, one - 1, outerOf(list(top), list(low)), list(top)}.step(nil)
	task{-1, -1, api.Outer{}, list(1)}.step(counted())
	outer.Begin(list(5, 6))
	outer.Delta(nil, list(5), list(6))
	if again := k.step(nil); !again.same(first) {
		t.Error(first, again)
	}
}
