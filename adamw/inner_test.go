package adamw_test

import (
	"math"
	"slices"
	"testing"

	"regatta/adamw"
	"regatta/api"
)

// plain is an inner that is right, and in whose every field something stands.
func plain() api.Inner {
	return api.Inner{
		Rate:  api.Rates{Base: one / 8, Warm: 3, Drops: []api.Drop{{At: 2, Factor: half}, {At: 5, Factor: one / 4}}},
		Beta1: half, Beta2: 3 * one / 4, Eps: one / 16, Decay: one / 32, Clip: 8 * one,
	}
}

// with is the plain inner with something else in it.
func with(change func(x *api.Inner)) api.Inner {
	x := plain()
	change(&x)
	return x
}

func drops(list ...api.Drop) func(x *api.Inner) {
	return func(x *api.Inner) { x.Rate.Drops = list }
}

// rising is n drops, one step behind another.
func rising(n, first int) []api.Drop {
	var out []api.Drop
	for i := range n {
		out = append(out, api.Drop{At: first + i, Factor: half})
	}
	return out
}

// fixes are changes of one field, to each of some numbers.
func fixes(field func(x *api.Inner) *api.Fix, numbers ...api.Fix) []func(x *api.Inner) {
	var out []func(x *api.Inner)
	for _, n := range numbers {
		out = append(out, func(x *api.Inner) { *field(x) = n })
	}
	return out
}

// The fields of an inner that are numbers.
func baseField(x *api.Inner) *api.Fix  { return &x.Rate.Base }
func beta1Field(x *api.Inner) *api.Fix { return &x.Beta1 }
func beta2Field(x *api.Inner) *api.Fix { return &x.Beta2 }
func epsField(x *api.Inner) *api.Fix   { return &x.Eps }
func decayField(x *api.Inner) *api.Fix { return &x.Decay }
func clipField(x *api.Inner) *api.Fix  { return &x.Clip }

func warmTo(n int) func(x *api.Inner) {
	return func(x *api.Inner) { x.Rate.Warm = n }
}

// wrongChanges bring each field by itself beyond each of its ends.
func wrongChanges() []func(x *api.Inner) {
	return slices.Concat(
		fixes(baseField, -1, -one, low),
		fixes(beta1Field, -1, -half, low, one, one+1, top),
		fixes(beta2Field, -1, -half, low, one, one+1, top),
		fixes(epsField, 0, -1, -one, low),
		fixes(decayField, -1, -one, low),
		fixes(clipField, -1, -one, low),
		[]func(x *api.Inner){
			warmTo(-1), warmTo(math.MinInt), warmTo(api.MaxSteps + 1), warmTo(math.MaxInt),
			drops(rising(api.MaxDrops+1, 1)...),
			drops(api.Drop{At: 0, Factor: half}), drops(api.Drop{At: -1, Factor: half}), drops(api.Drop{At: math.MinInt, Factor: half}),
			drops(api.Drop{At: api.MaxSteps + 1, Factor: half}), drops(api.Drop{At: math.MaxInt, Factor: half}),
			drops(api.Drop{At: 4, Factor: half}, api.Drop{At: 4, Factor: half}),
			drops(api.Drop{At: 4, Factor: half}, api.Drop{At: 3, Factor: half}),
			drops(api.Drop{At: 1, Factor: half}, api.Drop{At: 4, Factor: half}, api.Drop{At: 2, Factor: half}),
			drops(api.Drop{At: 4, Factor: -1}), drops(api.Drop{At: 4, Factor: low}),
			drops(api.Drop{At: 4, Factor: one + 1}), drops(api.Drop{At: 4, Factor: top}),
			drops(api.Drop{At: 4, Factor: half}, api.Drop{At: 5, Factor: one + 1}),
		},
	)
}

// wrongInners are those, and some in which all is wrong, or nothing was set.
func wrongInners() []api.Inner {
	list := []api.Inner{{}, {Rate: base(one)}, {Rate: base(-1), Beta1: one, Beta2: -1, Eps: -1, Decay: -1, Clip: -1}}
	for _, change := range wrongChanges() {
		list = append(list, with(change))
	}
	return list
}

// rightInners are at the ends of each field.
func rightInners() []api.Inner {
	list := []api.Inner{
		plain(),
		{Eps: 1},
		{Rate: api.Rates{Base: top, Warm: api.MaxSteps, Drops: rising(api.MaxDrops, api.MaxSteps-api.MaxDrops+1)}, Beta1: one - 1, Beta2: one - 1, Eps: top, Decay: top, Clip: top},
	}
	for _, change := range slices.Concat(
		fixes(baseField, 0, 1, one, top),
		fixes(beta1Field, 0, 1, half, one-1),
		fixes(beta2Field, 0, 1, half, one-1),
		fixes(epsField, 1, 2, one, top),
		fixes(decayField, 0, 1, one, top),
		fixes(clipField, 0, 1, one, top),
		[]func(x *api.Inner){
			warmTo(0), warmTo(1), warmTo(api.MaxSteps),
			drops(), drops([]api.Drop{}...), drops(rising(api.MaxDrops, 1)...),
			drops(api.Drop{At: 1, Factor: 0}), drops(api.Drop{At: 1, Factor: one}), drops(api.Drop{At: api.MaxSteps, Factor: 1}),
			drops(api.Drop{At: 1, Factor: one}, api.Drop{At: 2, Factor: one}),
		},
	) {
		list = append(list, with(change))
	}
	return list
}

// P9.1: each field at its ends, and beyond them.
func TestCheck(t *testing.T) {
	for _, x := range rightInners() {
		if e := adamw.Check(x); e != api.OK {
			t.Errorf("Check(%v) = %d", x, e)
		}
	}
	for _, x := range wrongInners() {
		if e := adamw.Check(x); e != api.ErrRule {
			t.Errorf("Check(%v) = %d", x, e)
		}
	}
}

// P9.1: of what is behind the end of the list of drops nothing is looked at.
func TestDropsBehindTheEnd(t *testing.T) {
	room := []api.Drop{{At: 1, Factor: half}, {At: -1, Factor: -1}}
	if e := adamw.Check(with(drops(room[:1]...))); e != api.OK {
		t.Error(e)
	}
	if e := adamw.Check(with(drops(room...))); e != api.ErrRule {
		t.Error(e)
	}
	if room[0] != (api.Drop{At: 1, Factor: half}) || room[1] != (api.Drop{At: -1, Factor: -1}) {
		t.Error(room)
	}
}

// P9.1
func TestBegin(t *testing.T) {
	for _, n := range []int{0, 1, 2, 77, api.MaxDim - 1, api.MaxDim} {
		if s, e := adamw.Begin(n); e != api.OK || !sameState(s, nought(n)) {
			t.Errorf("Begin(%d): %d, %d and %d parts, %d steps", n, e, len(s.M), len(s.V), s.T)
		}
	}
	for _, n := range []int{-1, -2, math.MinInt, api.MaxDim + 1, api.MaxDim + 2, math.MaxInt} {
		if s, e := adamw.Begin(n); e != api.ErrArg || !sameState(s, api.Adam{}) {
			t.Errorf("Begin(%d): %d, %d and %d parts, %d steps", n, e, len(s.M), len(s.V), s.T)
		}
	}
}

// P9.1 and DOC.md's rule 4: both lists, and those of two states, are memory of their own, spare room too.
func TestBeginsApart(t *testing.T) {
	first, _ := adamw.Begin(3)
	second, _ := adamw.Begin(3)
	for i, list := range [][]api.Fix{first.M, first.V, second.M} {
		for j := range whole(list) {
			whole(list)[j] = api.Fix(i + 1)
		}
	}
	if !slices.Equal(first.M, full(3, 1)) || !slices.Equal(first.V, full(3, 2)) || !slices.Equal(second.M, full(3, 3)) || !slices.Equal(second.V, full(3, 0)) {
		t.Error(first, second)
	}
	if third, _ := adamw.Begin(3); !sameState(third, nought(3)) {
		t.Error(third)
	}
}
