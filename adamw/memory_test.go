package adamw_test

import (
	"slices"
	"testing"

	"regatta/api"
)

// roomy is a list with room behind its parts in which something stands.
func roomy(parts ...api.Fix) []api.Fix {
	return append(slices.Clone(parts), 77, 88, 99)[:len(parts)]
}

// whole is a list with all its room.
func whole(a []api.Fix) []api.Fix { return a[:cap(a)] }

// scene is a step with room behind its lists, clipped to that.
func scene(clip api.Fix) task {
	x := with(func(x *api.Inner) { x.Clip = clip })
	x.Rate.Drops = append(x.Rate.Drops, api.Drop{At: 9, Factor: 9})[:2]
	return task{x, state(roomy(one, -half, 3), roomy(one, half, 3), 4), roomy(one, -one, 5), roomy(3*one, 4*one, -7)}
}

func (k task) lists() [][]api.Fix { return [][]api.Fix{k.s.M, k.s.V, k.p, k.g} }

func (a told) lists() [][]api.Fix { return [][]api.Fix{a.s.M, a.s.V, a.p} }

// wholes are copies of lists with all their room.
func wholes(lists [][]api.Fix) [][]api.Fix {
	var out [][]api.Fix
	for _, l := range lists {
		out = append(out, slices.Clone(whole(l)))
	}
	return out
}

func sameLists(a, b [][]api.Fix) bool { return slices.EqualFunc(a, b, slices.Equal[[]api.Fix]) }

func fill(lists [][]api.Fix, x api.Fix) {
	for _, l := range lists {
		for i := range whole(l) {
			whole(l)[i] = x
		}
	}
}

// clips are: not at all, longer than the gradient, and shorter.
func clips() []api.Fix { return list(0, 9*one, one) }

// DOC.md's rules 4 and 8, of P9.2: what is handed in stays as it is, its room too, by the call and through its answer.
func TestHandedInIsLeftAlone(t *testing.T) {
	for _, clip := range clips() {
		k, was := scene(clip), scene(clip)
		first, second := k.step(nil), k.step(nil)
		kept := wholes(first.lists())
		fill(second.lists(), -5)
		if !sameLists(wholes(k.lists()), wholes(was.lists())) || k.s.T != 4 {
			t.Errorf("clipped to %d: %v, was %v", clip, wholes(k.lists()), wholes(was.lists()))
		}
		if !slices.Equal(k.x.Rate.Drops[:3], was.x.Rate.Drops[:3]) {
			t.Errorf("clipped to %d: the drops are %v", clip, k.x.Rate.Drops[:3])
		}
		if !sameLists(wholes(first.lists()), kept) {
			t.Errorf("clipped to %d: two answers share memory", clip)
		}
	}
}

// DOC.md's rule 4, of P9.2: each list of an answer is memory of its own, its room too.
func TestAnswersAreApart(t *testing.T) {
	for _, clip := range clips() {
		for i := range 3 {
			got := scene(clip).step(nil)
			was := wholes(got.lists())
			fill(got.lists()[i:i+1], -5)
			now := wholes(got.lists())
			if !sameLists(slices.Delete(now, i, i+1), slices.Delete(was, i, i+1)) {
				t.Errorf("clipped to %d: the list %d shares memory with another", clip, i)
			}
		}
	}
}

// DOC.md's rule 4, of P9.2: nothing is kept of what is handed in, and one list may stand for all four.
func TestNothingIsKept(t *testing.T) {
	for _, clip := range clips() {
		k := scene(clip)
		got := k.step(nil)
		want := wholes(got.lists())
		fill(k.lists(), 12345)
		if !sameLists(wholes(got.lists()), want) {
			t.Errorf("clipped to %d: the answer hangs on an argument", clip)
		}
		if again := scene(clip).step(nil); !again.same(got) {
			t.Errorf("clipped to %d: two calls answer differently", clip)
		}
		l := roomy(one, 3*one, 5)
		checkModel(t, "one list", task{scene(clip).x, state(l, l, 2), l, l})
		if !slices.Equal(whole(l)[:6], list(one, 3*one, 5, 77, 88, 99)) {
			t.Errorf("clipped to %d: the list is %v", clip, whole(l))
		}
	}
}

// DOC.md's rule 3: a list without an element may be nil or empty.
func TestNilAndEmptyLists(t *testing.T) {
	empty := list()
	for bits := range 16 {
		lists := [4][]api.Fix{}
		for i := range lists {
			if bits>>i&1 == 1 {
				lists[i] = empty
			}
		}
		k := task{plain(), state(lists[0], lists[1], 3), lists[2], lists[3]}
		checkTold(t, "no part", k, told{s: state(nil, nil, 4)}, 0)
	}
}
