package adamw_test

import (
	"math"
	"slices"
	"testing"

	"regatta/adamw"
	"regatta/api"
)

const (
	tenth = api.Fix(429496730) // to the nearest step
	beta1 = api.Fix(3865470566)
	beta2 = api.Fix(4290672329)
)

// byHand is a step that was reckoned outside of the program.
type byHand struct {
	name string
	k    task
	want told
	held int
}

func checkByHand(t *testing.T, cases []byHand) {
	t.Helper()
	for _, c := range cases {
		checkTold(t, c.name, c.k, c.want, c.held)
	}
}

// P9.2: the chapter's example, and others of the first step and of later ones.
func TestStepByHand(t *testing.T) {
	third := one / 3
	checkByHand(t, []byHand{
		{"the example", task{api.Inner{Rate: base(tenth), Eps: 1}, nought(1), list(one), list(4 * one)},
			told{s: state(list(4*one), list(16*one), 1), p: list(3865470566)}, 0},
		{"no part", task{plain(), nought(0), nil, nil}, told{s: state(nil, nil, 1)}, 0},
		{"no part, later", task{plain(), state(nil, list(), 8), list(), nil}, told{s: state(nil, nil, 9)}, 0},
		{"the first step", task{api.Inner{Rate: base(tenth), Beta1: beta1, Beta2: beta2, Eps: 43}, nought(3), list(one, -one, 0), list(4*one, -half, 3)},
			told{s: state(list(1717986920, -214748365, 0), list(68719472, 1073742, 0), 1), p: list(3865470567, -3865470624, 0)}, 0},
		{"the fifth step", task{api.Inner{Rate: base(tenth), Beta1: beta1, Beta2: beta2, Eps: 43, Decay: tenth}, state(list(one, -one, 7), list(one, half, 9), 4), list(one, -one, 5), list(4*one, -half, 3)},
			told{s: state(list(5583457486, -4080218931, 7), list(4359391801, 2146409906, 9), 5), p: list(4156417958, -4152455707, -2618)}, 0},
		{"thirds", task{api.Inner{Rate: base(third), Beta1: third, Beta2: third, Eps: third, Decay: third}, state(list(one/7, -5), list(one/7, 6), 2), list(one, 11), list(one/5, -13)},
			told{s: state(list(777184558, -10), list(319054713, 2), 3), p: list(3377502415, 20)}, 0},
		{"decay goes by the parameter as it was", task{api.Inner{Rate: base(half), Eps: one, Decay: half}, nought(1), list(8 * one), list(one)},
			told{s: state(list(one), list(one), 1), p: list(24696061952)}, 0},
		{"the last step", task{api.Inner{Rate: base(one), Beta1: one - 1, Beta2: one - 4096, Eps: one}, state(list(one), list(one), api.MaxSteps-1), list(0), list(one)},
			told{s: state(list(one), list(one), api.MaxSteps), p: list(-7791853992852)}, 0},
		{"the last but one", task{api.Inner{Rate: base(one), Beta1: one - 1, Beta2: one - 4096, Eps: one}, state(list(one), list(one), api.MaxSteps-2), list(0), list(one)},
			told{s: state(list(one), list(one), api.MaxSteps-1), p: list(-7791860218455)}, 0},
	})
}

// P9.2: both means are exact until their end and then rounded, halves to the even one; q is rounded ahead of them.
func TestMeansByHand(t *testing.T) {
	quarter := one / 4
	checkByHand(t, []byHand{
		{"halves", task{api.Inner{Rate: base(one), Beta1: half, Beta2: half, Eps: one}, state(list(1, 3, -1, -3, 5), list(1, 3, 5, 7, 0), 0), full(5, 0), full(5, 0)},
			told{s: state(list(0, 2, 0, -2, 2), list(0, 2, 2, 4, 0), 1), p: list(0, -4, 0, 4, -4)}, 0},
		{"two halves", task{api.Inner{Rate: base(one), Beta1: half, Eps: one}, state(list(1), list(0), 0), list(0), list(1)},
			told{s: state(list(1), list(0), 1), p: list(-2)}, 0},
		{"two halves of v", task{api.Inner{Beta2: half, Eps: one}, state(list(0), list(1), 0), list(0), list(65536)},
			told{s: state(list(65536), list(1), 1), p: list(0)}, 0},
		{"three quarters twice", task{api.Inner{Beta1: quarter, Eps: one}, state(list(3, -3, 1), list(0, 0, 0), 0), full(3, 9), list(1, -1, 3)},
			told{s: state(list(2, -2, 2), list(0, 0, 0), 1), p: full(3, 9)}, 0},
		{"q is rounded up", task{api.Inner{Beta2: quarter, Eps: one}, nought(1), list(0), list(46341)},
			told{s: state(list(46341), list(1), 1), p: list(0)}, 0},
	})
}

// P9.2: not at all, to what it is as long as, and to less.
func TestClippingByHand(t *testing.T) {
	of := func(clip api.Fix) task {
		x := api.Inner{Rate: base(one), Beta1: half, Beta2: half, Eps: half, Clip: clip}
		return task{x, nought(2), list(one, one), list(3*one, 4*one)}
	}
	whole := told{s: state(list(6442450944, 8589934592), list(19327352832, 34359738368), 1), p: list(613566757, 477218588)}
	checkByHand(t, []byHand{
		{"not at all", of(0), whole, 0},
		{"nothing is longer", of(top), whole, 0},
		{"as long", of(5 * one), whole, 0},
		{"to One", of(one), told{s: state(list(1288490188, 1717986918), list(773094113, 1374389534), 1), p: list(1952257863, 1651910498)}, 0},
		{"to one step", of(1), told{s: nought1(2), p: list(one, one)}, 0},
	})
}

// nought1 is a state of n noughts behind one step.
func nought1(n int) api.Adam {
	s := nought(n)
	s.T = 1
	return s
}

// P9.2: the rate is that of the step that is made: warm and not, with drops.
func TestRatesByHand(t *testing.T) {
	x := api.Inner{Rate: api.Rates{Base: one, Warm: 4, Drops: []api.Drop{{At: 3, Factor: half}, {At: 6, Factor: one / 4}}}, Eps: one}
	for made, want := range []api.Fix{-536870912, -1073741824, -805306368, -1073741824, -1073741824, -268435456, -268435456} {
		k := task{x, state(list(0), list(0), made), list(0), list(one)}
		checkTold(t, "", k, told{s: state(list(one), list(one), made+1), p: list(want)}, 0)
	}
	x.Rate = api.Rates{Base: one, Warm: api.MaxSteps, Drops: []api.Drop{{At: api.MaxSteps, Factor: half}}}
	for made, want := range map[int]api.Fix{api.MaxSteps - 2: -2147481600, api.MaxSteps - 1: -1073741824} {
		k := task{x, state(list(0), list(0), made), list(0), list(one)}
		checkTold(t, "", k, told{s: state(list(one), list(one), made+1), p: list(want)}, 0)
	}
}

// P9.2: one step behind another, with all that there is.
func TestRunByHand(t *testing.T) {
	x := api.Inner{
		Rate:  api.Rates{Base: one, Warm: 3, Drops: []api.Drop{{At: 2, Factor: half}, {At: 5, Factor: tenth}}},
		Beta1: beta1, Beta2: beta2, Eps: 1000, Decay: one / 100, Clip: 2 * one,
	}
	s, e := adamw.Begin(3)
	if e != api.OK {
		t.Fatal(e)
	}
	p := list(one, -2*one, half)
	for _, c := range []struct{ g, m, v, p []api.Fix }{
		{list(one, -one, 3), list(429496730, -429496730, 0), list(4294967, 4294967, 0), list(2848995307, -7129646046, 2140325369)},
		{list(2*one, 2*one, 2*one), list(882487162, 109393049, 495940105), list(10017295, 10017295, 5726623), list(1406174148, -7283555369, 1067843515)},
		{list(0, 0, 0), list(794238446, 98453744, 446346094), list(10007278, 10007278, 5720896), list(-262802594, -7453152291, -172770630)},
		{list(-one, half, 7), list(285317871, 303356735, 401711485), list(14292238, 11071012, 5715175), list(-715953884, -7964898537, -1183768794)},
		{list(5, -5, one), list(256786084, 273021061, 791037066), list(14277946, 11059941, 10004427), list(-754008587, -8007320120, -1324540215)},
		{list(one, one, one), list(660604206, 675215685, 1141430089), list(18558635, 15343848, 14289390), list(-836595001, -8096576089, -1487243605)},
	} {
		want := told{s: state(c.m, c.v, s.T+1), p: c.p}
		checkTold(t, "", task{x, s, p, c.g}, want, 0)
		s, p = want.s, want.p
	}
}

// P9.2
func TestStepsOfAllKinds(t *testing.T) {
	r := shuffled(1)
	for range 40000 {
		k := taskOf(r)
		checkModel(t, "a step", k)
	}
}

// P9.2: each field at its ends, over the edges of all numbers.
func TestRightInners(t *testing.T) {
	edges := list(0, 1, -1, half, -half, one, -one, 1<<47, -1<<47, top, low)
	for _, x := range rightInners() {
		for _, made := range []int{0, 1, 2, 4, 5, 15, 16, 100} {
			for i := range edges {
				turned := slices.Concat(edges[i:], edges[:i])
				back := slices.Clone(turned)
				slices.Reverse(back)
				checkModel(t, "at the edges", task{x, state(turned, back, made), edges, back})
				checkModel(t, "at the edges, turned", task{x, state(edges, turned, made), back, turned})
			}
		}
	}
}

// P9.2: the last steps that there are.
func TestFarSteps(t *testing.T) {
	r := shuffled(2)
	for _, beta := range list(0, half, beta2, one-4096, one-1) {
		for _, made := range []int{api.MaxSteps - 2, api.MaxSteps - 1} {
			k := taskOf(r)
			k.x.Beta1, k.x.Beta2, k.s.T = beta, one-1-beta, made
			checkModel(t, "a far step", k)
		}
	}
}

// P9.2: as many parts as there may be, all alike, so that each becomes what one alone would by its clipped part.
func TestLongLists(t *testing.T) {
	n := api.MaxDim
	for _, clip := range list(0, one, 256*one-1, 256*one) {
		m := &model{}
		g := m.clip(full(n, one), clip)[0]
		alone := m.step(task{changed(plain(), one, half), state(list(half), list(one), 3), list(2 * one), list(g)})
		x := changed(plain(), one, half)
		x.Clip = clip
		want := told{s: state(full(n, alone.s.M[0]), full(n, alone.s.V[0]), 4), p: full(n, alone.p[0])}
		checkTold(t, "long lists", task{x, state(full(n, half), full(n, one), 3), full(n, 2*one), full(n, one)}, want, m.held)
	}
}

// only is one parameter's part of a step.
func (k task) only(i int) task {
	return task{k.x, state(list(k.s.M[i]), list(k.s.V[i]), k.s.T), list(k.p[i]), list(k.g[i])}
}

// P9.3: without clipping, what becomes of a parameter among others is what becomes of it alone.
func TestEachGoesItsOwnWay(t *testing.T) {
	r := shuffled(3)
	for range 3000 {
		k := taskOf(r)
		k.x.Clip = 0
		got := k.step(nil)
		for i := range k.p {
			alone := k.only(i).step(nil)
			if alone.e != api.OK || got.s.M[i] != alone.s.M[0] || got.s.V[i] != alone.s.V[0] || got.p[i] != alone.p[0] {
				t.Fatalf("%v: part %d of %v, alone %v", k, i, got, alone)
			}
		}
	}
}

// P9.3: with clipping, parameters touch one another by how long the gradient is, and by nothing else.
func TestOnlyClippingTouchesOthers(t *testing.T) {
	r := shuffled(4)
	for range 2000 {
		k := taskOf(r)
		k.x.Clip = one
		k.g = append(full(len(k.g), 0), half, -half)
		n := len(k.g)
		k.s.M, k.s.V, k.p = append(k.s.M, 7, 8), append(k.s.V, 9, 10), append(k.p, 11, 12)
		got := k.step(nil)
		other := task{k.x, state(vectorOf(r, n), vectorOf(r, n), k.s.T), vectorOf(r, n), k.g}
		other.s.M[n-1], other.s.V[n-1], other.p[n-1] = 8, 10, 12
		if next := other.step(nil); next.s.M[n-1] != got.s.M[n-1] || next.s.V[n-1] != got.s.V[n-1] || next.p[n-1] != got.p[n-1] {
			t.Fatalf("%v: %v, beside others %v", k, got, next)
		}
	}
}

// P9.3: without decay nothing moves, and with it only what isn't 0.
func TestGradientOfNought(t *testing.T) {
	p := list(0, 1, -1, 12345, half, one, -one, top, low, top-1, low+1)
	n := len(p)
	for _, x := range rightInners() {
		for _, made := range []int{0, 1, 7, 1000} {
			s := nought(n)
			s.T = made
			still := s
			still.T = made + 1
			x.Decay = 0
			checkTold(t, "without decay", task{x, s, p, full(n, 0)}, told{s: still, p: p}, 0)
			x.Decay = half
			checkModel(t, "with decay", task{x, s, p, full(n, 0)})
		}
	}
	x := api.Inner{Rate: base(one), Eps: 1, Decay: half}
	checkTold(t, "half of all goes", task{x, nought(4), list(one, -one, 0, 3), full(4, 0)}, told{s: nought1(4), p: list(half, -half, 0, 1)}, 0)
}

// DOC.md's rule 5: what was asked ahead is of no matter.
func TestStepsDoNotHangTogether(t *testing.T) {
	k := task{plain(), state(list(1, 2), list(3, 4), 2), list(one, -one), list(half, one)}
	first := k.step(nil)
	task{with(func(x *api.Inner) { x.Beta1, x.Beta2 = one-1, 1 }), state(list(top), list(low), 77), list(top), list(low)}.step(nil)
	task{x: api.Inner{}, s: api.Adam{T: math.MinInt}}.step(nil)
	adamw.Check(api.Inner{})
	adamw.Begin(9)
	if again := k.step(nil); !again.same(first) {
		t.Error(first, again)
	}
}
