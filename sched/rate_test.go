package sched_test

import (
	"slices"
	"testing"

	"regatta/api"
	"regatta/sched"
)

const (
	half  = api.One / 2
	third = api.Fix(1431655765) // to the nearest step
	tenth = api.Fix(429496730)
)

// P8.1: the chapter's example.
func TestRateOfTheExample(t *testing.T) {
	r := api.Rates{Base: api.One, Warm: 4}
	for i, want := range []api.Fix{api.One / 4, half, 3 * api.One / 4, api.One, api.One} {
		checkRate(t, r, i+1, want)
	}
	checkRate(t, r, api.MaxSteps, api.One)
}

// P8.1: reckoned outside of the program.
func TestRateByHand(t *testing.T) {
	three := []api.Drop{{At: 3, Factor: third}, {At: 6, Factor: tenth}, {At: 8, Factor: half}}
	two := []api.Drop{{At: 1, Factor: half}, {At: 2, Factor: half}}
	for _, c := range []struct {
		base  api.Fix
		warm  int
		drops []api.Drop
		t     int
		want  api.Fix
	}{
		{tenth, 10, nil, 1, 42949673},
		{tenth, 10, nil, 3, 128849019},
		{tenth, 10, nil, 7, 300647711},
		{tenth, 10, nil, 9, 386547057},
		{tenth, 10, nil, 10, tenth},
		{tenth, 10, nil, 11, tenth},
		// halves of a step go to the even one
		{1, 2, nil, 1, 0},
		{3, 2, nil, 1, 2},
		{5, 2, nil, 1, 2},
		{7, 2, nil, 1, 4},
		// the greatest numbers: their product has more than 64 bits
		{api.MaxFix, 3, nil, 1, 3074457345618258602},
		{api.MaxFix, 3, nil, 2, 6148914691236517205},
		{api.MaxFix, 3, nil, 3, api.MaxFix},
		{api.MaxFix, 3, nil, 4, api.MaxFix},
		{api.MaxFix, api.MaxSteps, nil, 1, 8796093022208},
		{api.MaxFix, api.MaxSteps, nil, api.MaxSteps - 1, 9223363240761753599},
		{api.MaxFix, api.MaxSteps, nil, api.MaxSteps, api.MaxFix},
		{api.MaxFix, api.MaxSteps, []api.Drop{{At: api.MaxSteps, Factor: 1}}, api.MaxSteps - 1, 9223363240761753599},
		{api.MaxFix, api.MaxSteps, []api.Drop{{At: api.MaxSteps, Factor: 1}}, api.MaxSteps, 1 << 31},
		{api.MaxFix, 0, nil, 1, api.MaxFix},
		{api.MaxFix, 0, []api.Drop{{At: 1, Factor: api.One}}, 1, api.MaxFix},
		{api.MaxFix, 0, []api.Drop{{At: 1, Factor: api.One - 1}}, 1, 9223372034707292159},
		{api.MaxFix, 0, []api.Drop{{At: 1, Factor: 0}}, 1, 0},
		// drops among the warm steps, at the last of them, and behind
		{api.One, 6, three, 2, 1431655765},
		{api.One, 6, three, 3, 715827882},
		{api.One, 6, three, 5, 1193046471},
		{api.One, 6, three, 6, 143165577},
		{api.One, 6, three, 7, 143165577},
		{api.One, 6, three, 8, 71582788},
		// each product is rounded, in the drops' order
		{5, 0, two, 1, 2},
		{5, 0, two, 2, 1},
		{7, 0, two, 2, 2},
		{3, 0, []api.Drop{{At: 1, Factor: third}, {At: 2, Factor: half}}, 2, 0},
		{3, 0, []api.Drop{{At: 1, Factor: half}, {At: 2, Factor: third}}, 2, 1},
		// and so is the warm step's quotient, ahead of them
		{3, 2, []api.Drop{{At: 1, Factor: 3 * api.One / 4}}, 1, 2},
		{0, 4, three, 3, 0},
		{0, 0, nil, 1, 0},
	} {
		checkRate(t, api.Rates{Base: c.base, Warm: c.warm, Drops: c.drops}, c.t, c.want)
	}
}

// rightRates are at the edges of all that is right, in all ways together.
func rightRates() []api.Rates {
	full := make([]api.Drop, api.MaxDrops)
	last := make([]api.Drop, api.MaxDrops)
	for i := range full {
		full[i] = api.Drop{At: i + 1, Factor: api.One - api.Fix(i)}
		last[i] = api.Drop{At: api.MaxSteps - api.MaxDrops + i + 1, Factor: half + api.Fix(i)}
	}
	var list []api.Rates
	for _, base := range []api.Fix{0, 1, 2, 3, third, api.One, api.MaxFix - 1, api.MaxFix} {
		for _, warm := range []int{0, 1, 2, 3, 7, api.MaxSteps - 1, api.MaxSteps} {
			for _, drops := range [][]api.Drop{
				nil,
				{},
				{{At: 1, Factor: 0}},
				{{At: 1, Factor: api.One}},
				{{At: 1, Factor: 1}, {At: 2, Factor: api.One - 1}},
				{{At: api.MaxSteps, Factor: third}},
				{{At: 6, Factor: half}, {At: 7, Factor: tenth}, {At: 8, Factor: third}, {At: api.MaxSteps - 1, Factor: half}, {At: api.MaxSteps, Factor: 0}},
				full,
				last,
			} {
				list = append(list, api.Rates{Base: base, Warm: warm, Drops: drops})
			}
		}
	}
	return list
}

// stepsOf are the ends of the steps, and those at and beside what tells rates apart.
func stepsOf(r api.Rates) []int {
	list := []int{1, 2, api.MaxSteps/2 + 1, api.MaxSteps - 1, api.MaxSteps, r.Warm - 1, r.Warm, r.Warm + 1}
	for _, d := range r.Drops {
		list = append(list, d.At-1, d.At, d.At+1)
	}
	slices.Sort(list)
	list = slices.Compact(list)
	return slices.DeleteFunc(list, func(t int) bool { return t < 1 || t > api.MaxSteps })
}

// P8.1: at all edges.
func TestRate(t *testing.T) {
	for _, r := range rightRates() {
		if e := sched.CheckRates(r); e != api.OK {
			t.Fatalf("CheckRates(%v) = %d", r, e)
		}
		for _, step := range stepsOf(r) {
			checkRate(t, r, step, rateOf(r, step))
		}
	}
}

// P8.1
func TestMixedRates(t *testing.T) {
	mix := mixed(1)
	for range 20000 {
		r := api.Rates{Base: anyFix(mix, api.MaxFix), Warm: mix.IntN(1 << mix.IntN(21))}
		at := 0
		for range mix.IntN(api.MaxDrops + 1) {
			at += 1 + mix.IntN(1<<mix.IntN(16))
			r.Drops = append(r.Drops, api.Drop{At: at, Factor: api.One - anyFix(mix, api.One)})
		}
		if e := sched.CheckRates(r); e != api.OK {
			t.Fatalf("CheckRates(%v) = %d", r, e)
		}
		for _, step := range stepsOf(r) {
			checkRate(t, r, step, rateOf(r, step))
		}
	}
}

// P8.5: up to Warm no rate is below the one ahead, behind it none above; that of Warm itself is Base.
func TestRatesRiseAndFall(t *testing.T) {
	for _, r := range []api.Rates{
		{Base: 0, Warm: 40},
		{Base: 7, Warm: 100},
		{Base: api.One, Warm: 1},
		{Base: api.One, Warm: 7, Drops: []api.Drop{{At: 8, Factor: api.One - 1}, {At: 9, Factor: 0}}},
		{Base: api.MaxFix, Warm: 100, Drops: []api.Drop{{At: 101, Factor: api.One}, {At: 103, Factor: third}, {At: 120, Factor: api.One - 1}}},
		{Base: tenth, Warm: 50, Drops: []api.Drop{{At: 51, Factor: tenth}, {At: 52, Factor: tenth}, {At: 53, Factor: tenth}, {At: 54, Factor: tenth}, {At: 55, Factor: tenth}}},
		{Base: 3, Warm: 0, Drops: []api.Drop{{At: 1, Factor: 3 * api.One / 4}, {At: 2, Factor: half + 1}, {At: 3, Factor: half}, {At: 4, Factor: third}}},
	} {
		before := api.Fix(0)
		for step := 1; step <= 200; step++ {
			rate, e := sched.Rate(r, step)
			rises := step <= r.Warm
			if e != api.OK || rate < 0 || rate > r.Base || rises && rate < before || !rises && step > 1 && rate > before {
				t.Fatalf("Rate(%v, %d) = %d, %d, and %d ahead of it", r, step, rate, e, before)
			}
			if step == r.Warm && rate != r.Base {
				t.Fatalf("Rate(%v, %d) = %d", r, step, rate)
			}
			before = rate
		}
	}
}

// P8.5: the first step behind Warm has at most the rate of Warm, even if a drop stands there.
func TestNoRiseBehindWarm(t *testing.T) {
	for _, drops := range [][]api.Drop{nil, {{At: 4, Factor: half}}, {{At: 5, Factor: half}}, {{At: 4, Factor: half}, {At: 5, Factor: half}}} {
		r := api.Rates{Base: api.One, Warm: 4, Drops: drops}
		last, _ := sched.Rate(r, 4)
		behind, e := sched.Rate(r, 5)
		if e != api.OK || behind > last {
			t.Errorf("%v: %d, then %d", r, last, behind)
		}
	}
}

// with is rates that are right but for what is done to them.
func with(spoil func(r *api.Rates)) api.Rates {
	r := api.Rates{Base: api.One, Warm: 4, Drops: []api.Drop{{At: 3, Factor: half}, {At: 6, Factor: half}}}
	spoil(&r)
	return r
}

func wrongRates() []api.Rates {
	var list []api.Rates
	add := func(spoil func(r *api.Rates)) {
		list = append(list, with(spoil))
	}
	for _, base := range []api.Fix{-1, -api.One, api.MinFix} {
		add(func(r *api.Rates) { r.Base = base })
	}
	for _, warm := range []int{-1, least, api.MaxSteps + 1, most} {
		add(func(r *api.Rates) { r.Warm = warm })
	}
	for _, at := range []int{0, -1, least, 6, 7, api.MaxSteps + 1, most} {
		add(func(r *api.Rates) { r.Drops[0].At = at })
	}
	for _, at := range []int{3, 2, 1, 0, -1, least, api.MaxSteps + 1, most} {
		add(func(r *api.Rates) { r.Drops[1].At = at })
	}
	for i := range 2 {
		for _, factor := range []api.Fix{-1, api.MinFix, api.One + 1, api.MaxFix} {
			add(func(r *api.Rates) { r.Drops[i].Factor = factor })
		}
	}
	add(func(r *api.Rates) { r.Drops = []api.Drop{{At: 0, Factor: half}} })
	add(func(r *api.Rates) {
		r.Drops = []api.Drop{{At: api.MaxSteps, Factor: half}, {At: api.MaxSteps, Factor: half}}
	})
	add(func(r *api.Rates) {
		r.Drops = []api.Drop{{At: api.MaxSteps, Factor: half}, {At: api.MaxSteps + 1, Factor: half}}
	})
	add(func(r *api.Rates) {
		r.Drops = []api.Drop{{At: 5, Factor: half}, {At: 4, Factor: half}, {At: 6, Factor: half}}
	})
	for _, n := range []int{api.MaxDrops + 1, 2 * api.MaxDrops} {
		add(func(r *api.Rates) {
			r.Drops = nil
			for i := range n {
				r.Drops = append(r.Drops, api.Drop{At: i + 1, Factor: api.One})
			}
		})
	}
	add(func(r *api.Rates) { *r = api.Rates{Base: -1, Warm: -1, Drops: []api.Drop{{}, {}}} })
	return list
}

// P8.1: wrong rates are told ahead of a wrong step, and whichever step it is.
func TestRatesAreRefused(t *testing.T) {
	if e := sched.CheckRates(with(func(*api.Rates) {})); e != api.OK {
		t.Fatal(e)
	}
	for _, r := range wrongRates() {
		if e := sched.CheckRates(r); e != api.ErrRule {
			t.Errorf("CheckRates(%v) = %d", r, e)
		}
		for _, step := range []int{least, -1, 0, 1, 4, 5, api.MaxSteps, api.MaxSteps + 1, most} {
			if got, e := sched.Rate(r, step); got != 0 || e != api.ErrRule {
				t.Errorf("Rate(%v, %d) = %d, %d", r, step, got, e)
			}
		}
	}
}

// P8.1
func TestRateIsRefused(t *testing.T) {
	for _, r := range []api.Rates{{}, {Base: api.One, Warm: api.MaxSteps}, with(func(*api.Rates) {})} {
		for _, step := range []int{least, -1, 0, api.MaxSteps + 1, most} {
			if got, e := sched.Rate(r, step); got != 0 || e != api.ErrArg {
				t.Errorf("Rate(%v, %d) = %d, %d", r, step, got, e)
			}
		}
	}
}

// DOC.md's rules 4, 5 and 8, of P8.1: the drops stay as they are, those behind the list's end aren't looked at, and nothing of them is kept.
func TestDropsAreLeftAlone(t *testing.T) {
	room := []api.Drop{{At: 2, Factor: half}, {At: 4, Factor: third}, {At: 4, Factor: -1}, {At: 3, Factor: half}}
	was := slices.Clone(room)
	r := api.Rates{Base: api.One, Drops: room[:2]}
	for _, step := range []int{0, 1, 2, 3, 4, 5, api.MaxSteps} {
		sched.CheckRates(r)
		sched.Rate(r, step)
	}
	if !slices.Equal(room, was) {
		t.Errorf("%v, was %v", room, was)
	}
	checkRate(t, r, 5, 715827882)
	room[0].Factor = api.One
	checkRate(t, r, 5, third)
	wrong := api.Rates{Base: api.One, Drops: room[:3]}
	was = slices.Clone(room)
	if e := sched.CheckRates(wrong); e != api.ErrRule || !slices.Equal(room, was) {
		t.Errorf("%v, %d, was %v", room, e, was)
	}
}
