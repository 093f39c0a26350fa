package adamw_test

import (
	"testing"

	"regatta/api"
)

// A step of one parameter, behind none: what is held in it hangs on the settings and on four numbers.
func single(x api.Inner, m, v, p, g api.Fix) task {
	return task{x, state(list(m), list(v), 0), list(p), list(g)}
}

func answer(m, v, p api.Fix) told {
	return told{s: state(list(m), list(v), 1), p: list(p)}
}

// P9.2: each result by itself beyond its end, and just at it; reckoned outside of the program.
func TestHeldByHand(t *testing.T) {
	plain := api.Inner{Rate: base(one), Eps: one}
	slow := api.Inner{Rate: base(one), Beta1: one - 1, Eps: one} // whose bias is one step
	mean := api.Inner{Rate: base(one), Beta1: half, Eps: one}
	checkByHand(t, []byHand{
		{"q", single(plain, 0, 0, 0, 65536*one), answer(65536*one, top, -6073869931), 1},
		{"q of the least number", single(plain, 0, 0, 0, low), answer(low, top, 199028569891815), 1},
		{"q just held", single(plain, 0, 0, 0, 199032864766431), answer(199032864766431, top, -4294874616), 1},
		{"q just not", single(plain, 0, 0, 0, 199032864766430), answer(199032864766430, 9223372036854739417, -4294874616), 0},
		{"m by its bias", single(slow, one, 0, 0, 0), answer(4294967295, 0, -top), 1},
		{"m by its bias, below", single(slow, -one, 0, -one, 0), answer(-4294967295, 0, 9223372032559808512), 1},
		{"m by its bias, just held", single(slow, half, 0, 0, 0), answer(half, 0, -top), 1},
		{"m by its bias, just not", single(slow, half-1, 0, 0, 0), answer(half-1, 0, -9223372032559808512), 0},
		{"m by its bias, below, just not", single(slow, -half, 0, -one, 0), answer(-half, 0, 9223372032559808512), 0},
		{"m by b and Eps", single(api.Inner{Rate: base(one), Beta1: half, Eps: 1}, one, 0, 0, 0), answer(half, 0, -top), 1},
		{"m by b and Eps, below", single(api.Inner{Rate: base(one), Beta1: half, Eps: 1}, -one, 0, -one, 0), answer(-half, 0, 9223372032559808512), 1},
		{"m by b and Eps, just held", single(api.Inner{Rate: base(one), Beta1: half, Eps: 1}, half, 0, 0, 0), answer(half/2, 0, -top), 1},
		{"m by b and Eps, just not", single(api.Inner{Rate: base(one), Beta1: half, Eps: 1}, half-2, 0, 0, 0), answer(half/2-1, 0, -9223372028264841216), 0},
		{"w", single(changed(mean, one, one), top-1, 0, top, 0), answer(1<<62-1, 0, 0), 1},
		{"w, just held", single(changed(mean, one, one), top-1, 0, 2, 0), answer(1<<62-1, 0, -top+2), 1},
		{"w, just not", single(changed(mean, one, one), top-1, 0, 1, 0), answer(1<<62-1, 0, -top+1), 0},
		{"w, below", single(changed(mean, one, one), low, 0, -1, 0), answer(-1<<62, 0, top), 1},
		{"w, below, just not", single(changed(mean, one, one), low+2, 0, -2, 0), answer(-1<<62+1, 0, top-1), 0},
		{"the rate's product", single(changed(mean, 2*one, 0), 1<<62, 0, 0, 0), answer(1<<61, 0, -top), 1},
		{"the rate's product, just not", single(changed(mean, 2*one, 0), 1<<62-2, 0, 0, 0), answer(1<<61-1, 0, -top+3), 0},
		{"the rate's product, below", single(changed(mean, 2*one, 0), -1<<62-2, 0, -1, 0), answer(-1<<61-1, 0, top), 1},
		{"the rate's product, below, just not", single(changed(mean, 2*one, 0), -1<<62, 0, -1, 0), answer(-1<<61, 0, top), 0},
		{"the parameter", single(mean, 2, 0, low+1, 0), answer(1, 0, low), 1},
		{"the parameter, just not", single(mean, 2, 0, low+2, 0), answer(1, 0, low), 0},
		{"the parameter, above", single(mean, -2, 0, top-1, 0), answer(-1, 0, top), 1},
		{"the parameter, above, just not", single(mean, -2, 0, top-2, 0), answer(-1, 0, top), 0},
		{"decay", single(changed(plain, one, top), 0, 0, one+1, 0), answer(0, 0, -9223372032559808510), 1},
		{"decay, just not", single(changed(plain, one, top), 0, 0, one, 0), answer(0, 0, -9223372032559808511), 0},
		{"decay, below", single(changed(plain, one, top), 0, 0, -2*one, 0), answer(0, 0, 9223372028264841216), 1},
		{"decay, below, just not", single(changed(plain, one, top), 0, 0, -one, 0), answer(0, 0, 9223372032559808511), 0},
	})
}

// changed is an inner with another rate and decay.
func changed(x api.Inner, rate, decay api.Fix) api.Inner {
	x.Rate, x.Decay = base(rate), decay
	return x
}

// P9.2: v, its quotient, its root, and the sum with Eps; reckoned outside of the program.
func TestHeldRootsByHand(t *testing.T) {
	of := func(beta, eps api.Fix) api.Inner {
		return api.Inner{Rate: base(one), Beta2: beta, Eps: eps}
	}
	checkByHand(t, []byHand{
		{"v by its bias", single(of(one-1, one), 0, one, 0, 0), answer(0, 4294967295, 0), 1},
		{"v by its bias, just held", single(of(one-1, one), 0, half, 0, 0), answer(0, half, 0), 1},
		{"v by its bias, just not", single(of(one-1, one), 0, half-1, 0, 0), answer(0, half-1, 0), 0},
		{"a root of what is below 0", single(of(half, one), 0, -one, 0, 0), answer(0, -half, 0), 1},
		{"a root of what is held below 0", single(of(one-1, one), 0, -one, 0, 0), answer(0, -4294967295, 0), 2},
		{"b and Eps", single(of(half, top), 0, 8*one, 0, 0), answer(0, 4*one, 0), 1},
		{"b and Eps, just held", single(of(half, top-92680), 0, 4, 0, 0), answer(0, 2, 0), 1},
		{"b and Eps, just not", single(of(half, top-92681), 0, 2, 0, 0), answer(0, 1, 0), 0},
	})
}

// P9.2: means lie between what they are made of, so that neither is ever held, at no end.
func TestMeansAtTheEnds(t *testing.T) {
	for _, beta := range list(1, half, one-1) {
		for _, c := range [][2]api.Fix{{top, top}, {low, low}, {low, top}, {top, low}} {
			x := api.Inner{Beta1: beta, Beta2: beta, Eps: one}
			checkModel(t, "at the ends", single(x, c[0], top, 5, c[1]))
			checkModel(t, "at the ends", single(x, c[0], low, 5, c[1]))
		}
	}
	x := api.Inner{Beta1: half, Beta2: half, Eps: one}
	checkByHand(t, []byHand{
		{"both above", single(x, top, top, 5, top), answer(top, top, 5), 3}, // q, and both quotients
		{"m below", single(x, low, top, 5, low), answer(low, top, 5), 3},
	})
}

// P9.2: the length of a gradient, be it clipped or not; reckoned outside of the program.
func TestHeldLengthsByHand(t *testing.T) {
	of := func(clip api.Fix, g ...api.Fix) task {
		n := len(g)
		return task{api.Inner{Eps: one, Clip: clip}, nought(n), full(n, 0), g}
	}
	means := func(m, v []api.Fix) told {
		return told{s: state(m, v, 1), p: full(len(m), 0)}
	}
	checkByHand(t, []byHand{
		{"as long as may be", of(top, top, 1), means(list(top, 1), list(top, 0)), 1}, // q alone
		{"longer than that", of(top, top, one), means(list(top, one), list(top, one)), 2},
		{"the least number", of(top, low), means(list(low), list(top)), 2},
		{"the least number, clipped", of(top-1, low), means(list(low), list(top)), 2},
		{"both ends, clipped to One", of(one, top, low), means(list(one, -one), list(one, one)), 1},
		{"both ends, clipped to nothing", of(3, top, low), means(list(0, 0), list(0, 0)), 1},
		{"both ends, not at all", of(0, top, low), means(list(top, low), list(top, top)), 2}, // both q
	})
}

// P9.2: all at once, and each part counts for itself; reckoned outside of the program.
func TestAllHeldByHand(t *testing.T) {
	x := api.Inner{Rate: base(top), Beta1: one - 1, Beta2: one - 1, Eps: 1, Decay: top, Clip: top}
	k := task{x, state(list(low, top), list(-2*one, top), 0), list(low, top), list(low, top)}
	checkTold(t, "all", k, told{s: state(list(low, top), list(-6442450942, top), 1), p: list(0, 0)}, 15)
	k = task{x, state(list(low), list(-one), 0), list(top), list(low)}
	checkTold(t, "most", k, told{s: state(list(low), list(-2147483647), 1), p: list(top)}, 7)
}
