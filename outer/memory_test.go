package outer_test

import (
	"slices"
	"testing"

	"regatta/api"
	"regatta/outer"
)

// roomy is a list with room behind its parts in which something stands.
func roomy(parts ...api.Fix) []api.Fix {
	return append(slices.Clone(parts), 77, 88, 99)[:len(parts)]
}

// whole is a list with all its room.
func whole(a []api.Fix) []api.Fix { return a[:cap(a)] }

// wholes are copies of lists with all their room.
func wholes(lists [][]api.Fix) [][]api.Fix {
	var out [][]api.Fix
	for _, l := range lists {
		out = append(out, slices.Clone(whole(l)))
	}
	return out
}

func sameLists(a, b [][]api.Fix) bool { return slices.EqualFunc(a, b, slices.Equal[[]api.Fix]) }

func fill(lists [][]api.Fix, x api.Fix) {
	for _, l := range lists {
		for i := range whole(l) {
			whole(l)[i] = x
		}
	}
}

// call is a call of the package: the lists that it is handed, and the lists that it answers.
type call struct {
	name string
	in   [][]api.Fix
	ask  func(in [][]api.Fix) [][]api.Fix
}

func askBegin(in [][]api.Fix) [][]api.Fix {
	o, _ := outer.Begin(in[0])
	return [][]api.Fix{o.P, o.B}
}

func askDelta(in [][]api.Fix) [][]api.Fix {
	d, _ := outer.Delta(nil, in[0], in[1])
	return [][]api.Fix{d}
}

// askStep is a step with that rate and moment.
func askStep(rate, moment api.Fix) func(in [][]api.Fix) [][]api.Fix {
	return func(in [][]api.Fix) [][]api.Fix {
		o, _ := outer.Step(nil, rate, moment, outerOf(in[0], in[1]), in[2])
		return [][]api.Fix{o.P, o.B}
	}
}

// calls are all calls with room behind their lists: with settings by which rows stay as they are, and others; some with no part; some refused.
func calls() []call {
	p, b, g := list(one, -one, 5), list(half, 3, -one), list(3*one, 4*one, -7)
	all := []call{
		{"begin", [][]api.Fix{roomy(p...)}, askBegin},
		{"begin with no part", [][]api.Fix{roomy()}, askBegin},
		{"delta", [][]api.Fix{roomy(p...), roomy(b...)}, askDelta},
		{"delta by nought", [][]api.Fix{roomy(p...), roomy(0, 0, 0)}, askDelta},
		{"delta with no part", [][]api.Fix{roomy(), roomy()}, askDelta},
		{"delta, refused", [][]api.Fix{roomy(p...), roomy(1, 2)}, askDelta},
	}
	for _, rate := range list(-1, 0, one, top) {
		for _, moment := range list(0, half, one) {
			step := askStep(rate, moment)
			all = append(all,
				call{"step", [][]api.Fix{roomy(p...), roomy(b...), roomy(g...)}, step},
				call{"step by nought", [][]api.Fix{roomy(p...), roomy(b...), roomy(0, 0, 0)}, step},
				call{"step with no part", [][]api.Fix{roomy(), roomy(), roomy()}, step},
				call{"step, unlike", [][]api.Fix{roomy(p...), roomy(b...), roomy(1)}, step},
			)
		}
	}
	return all
}

// DOC.md's rules 4 and 8: what is handed in stays as it is, its room too, by the call and through its answer.
func TestHandedInIsLeftAlone(t *testing.T) {
	for _, c := range calls() {
		was := wholes(c.in)
		out := c.ask(c.in)
		if !sameLists(wholes(c.in), was) {
			t.Errorf("%s: %v, was %v", c.name, wholes(c.in), was)
		}
		fill(out, -5)
		if !sameLists(wholes(c.in), was) {
			t.Errorf("%s, through its answer: %v, was %v", c.name, wholes(c.in), was)
		}
	}
}

// DOC.md's rules 4 and 8: nothing hangs on what is handed in once the call is over, nor on what stands behind it, nor on another answer.
func TestNothingIsKept(t *testing.T) {
	for _, c := range calls() {
		first := c.ask(c.in)
		want := wholes(first)
		fill(c.ask(c.in), -5)
		if again := c.ask(c.in); !sameLists(again, first) {
			t.Errorf("%s: %v, then %v", c.name, first, again)
		}
		fill(c.in, 12345)
		if !sameLists(wholes(first), want) {
			t.Errorf("%s: %v, was %v", c.name, wholes(first), want)
		}
	}
}

// DOC.md's rule 4: each list of an answer is memory of its own, its room too.
func TestAnswersAreApart(t *testing.T) {
	for _, c := range calls() {
		for i := range c.ask(c.in) {
			out := c.ask(c.in)
			was := wholes(out)
			fill(out[i:i+1], -5)
			if !sameLists(slices.Delete(wholes(out), i, i+1), slices.Delete(was, i, i+1)) {
				t.Errorf("%s: the list %d shares memory with another", c.name, i)
			}
		}
	}
}

// DOC.md's rule 4: one list may stand for all that are handed in.
func TestOneListForAll(t *testing.T) {
	l := roomy(one, 3*one, 5)
	checkModel(t, "one list", task{seven, nine, outerOf(l, l), l})
	checkDelta(t, "one list", l, l, full(3, 0), api.OK, 0)
	if !slices.Equal(l[:6], list(one, 3*one, 5, 77, 88, 99)) {
		t.Error(whole(l))
	}
}

// DOC.md's rule 3: a list without an element may be nil or empty.
func TestNilAndEmptyLists(t *testing.T) {
	for bits := range 8 {
		lists := [3][]api.Fix{}
		for i := range lists {
			if bits>>i&1 == 1 {
				lists[i] = list()
			}
		}
		checkTold(t, "no part", task{one, half, outerOf(lists[0], lists[1]), lists[2]}, told{}, 0)
		checkDelta(t, "no part", lists[0], lists[1], nil, api.OK, 0)
	}
}
