package mlp_test

import (
	"slices"
	"testing"

	"regatta/api"
)

// roomy is a list with room behind its parts in which something stands.
func roomy[T any](parts []T, behind T) []T {
	return append(slices.Clone(parts), behind, behind, behind)[:len(parts)]
}

// whole is a list with all its room.
func whole[T any](a []T) []T { return a[:cap(a)] }

// handed are arguments that are held against what they were.
type handed struct {
	sizes, wereSizes []int
	lists, were      [][]api.Fix
}

func handIn(sizes []int, lists ...[]api.Fix) handed {
	h := handed{sizes: sizes, wereSizes: slices.Clone(whole(sizes)), lists: lists}
	for _, l := range lists {
		h.were = append(h.were, slices.Clone(whole(l)))
	}
	return h
}

func (h handed) check(t *testing.T, name, when string) {
	t.Helper()
	if !slices.Equal(whole(h.sizes), h.wereSizes) {
		t.Errorf("%s: the sizes were changed %s: %v, were %v", name, when, whole(h.sizes), h.wereSizes)
	}
	for i, l := range h.lists {
		if !slices.Equal(whole(l), h.were[i]) {
			t.Errorf("%s: the argument %d was changed %s: %v, was %v", name, i+1, when, whole(l), h.were[i])
		}
	}
}

// scene is arguments of all calls, with room behind them, and the calls.
type scene struct {
	sizes   []int
	p, x, t []api.Fix
	y       []api.Fix
	list    []api.Example
}

func newScene() scene {
	s := scene{
		sizes: roomy(sizesOf(2, 3, 2), 9),
		p:     roomy(list(one, -one, half, one, -2*one, one, 1, -1, one, one, 2*one, 3*one, -one, half, one, 5, -7), 77),
		x:     roomy(list(2*one, 3*one), 88),
		t:     roomy(list(one, -one), 99),
		y:     roomy(list(half, half), 66),
	}
	s.list = roomy([]api.Example{{X: s.x, T: s.t}, {X: s.y, T: s.x}}, api.Example{X: s.t, T: s.y})
	return s
}

func (s scene) calls() map[string]call {
	return map[string]call{
		"Count": count(s.sizes), "Split": split(s.sizes, s.p), "Init": initial(3, s.sizes), "Forward": forward(s.sizes, s.p, s.x),
		"Loss, squared": loss(api.Squared, s.y, s.t), "Loss, hinge": loss(api.Hinge, s.y, s.t),
		"Slope, squared": slope(api.Squared, s.y, s.t), "Slope, hinge": slope(api.Hinge, s.y, s.t),
		"Loss of one list": loss(api.Squared, s.y, s.y), "Slope of one list": slope(api.Hinge, s.y, s.y),
		"Gradient, squared": gradient(api.Squared, s.sizes, s.p, s.list[0]), "Gradient, hinge": gradient(api.Hinge, s.sizes, s.p, s.list[0]),
		"Batch, squared": batch(api.Squared, s.sizes, s.p, s.list), "Batch, hinge": batch(api.Hinge, s.sizes, s.p, s.list),
		"Batch of one": batch(api.Squared, s.sizes, s.p, s.list[:1]),
		"refused":      gradient(3, s.sizes, s.p, s.list[0]), "refused Forward": forward(s.sizes, s.p, s.p), "refused Batch": batch(api.Hinge, s.sizes, s.x, s.list),
	}
}

func cloned(lists [][]api.Fix) [][]api.Fix {
	var out [][]api.Fix
	for _, l := range lists {
		out = append(out, slices.Clone(l))
	}
	return out
}

func sameLists(a, b [][]api.Fix) bool { return slices.EqualFunc(a, b, slices.Equal[[]api.Fix]) }

// DOC.md's rules 4 and 8, of P7.1 to P7.6: arguments stay as they are, their room too; answers are memory of their own, and so is each list in them.
func TestMemory(t *testing.T) {
	s := newScene()
	h := handIn(s.sizes, s.p, s.x, s.t, s.y)
	for name, c := range s.calls() {
		first := c(nil)
		h.check(t, name, "by the call")
		was, second := cloned(first.lists), c(nil)
		for i, l := range second.lists {
			others := cloned(slices.Delete(slices.Clone(second.lists), i, i+1))
			for j := range whole(l) {
				whole(l)[j] = -5
			}
			if !sameLists(others, slices.Delete(slices.Clone(second.lists), i, i+1)) {
				t.Errorf("%s: two lists of one answer share memory", name)
			}
		}
		h.check(t, name, "through the answer")
		if !sameLists(first.lists, was) {
			t.Errorf("%s: two answers share memory", name)
		}
	}
	if &s.list[0].X[0] != &s.x[0] || &s.list[1].T[0] != &s.x[0] || &s.list[:3][2].X[0] != &s.t[0] {
		t.Error("the list of examples was changed")
	}
}

// DOC.md's rule 4: what is answered does not hang on what becomes of the arguments.
func TestNothingIsKept(t *testing.T) {
	for name := range newScene().calls() {
		s := newScene()
		got := s.calls()[name](nil)
		was := cloned(got.lists)
		for _, l := range [][]api.Fix{s.p, s.x, s.t, s.y} {
			for i := range whole(l) {
				whole(l)[i] = 12345
			}
		}
		s.sizes[0], s.sizes[1] = 1, 1
		if !sameLists(got.lists, was) {
			t.Errorf("%s: the answer hangs on an argument", name)
		}
		if again := newScene().calls()[name](nil); !again.same(got) {
			t.Errorf("%s: two calls answer differently", name)
		}
	}
}
