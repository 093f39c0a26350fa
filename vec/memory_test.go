package vec_test

import (
	"slices"
	"testing"

	"regatta/api"
)

// roomy is a vector with room behind its parts in which something stands.
func roomy(parts ...api.Fix) []api.Fix {
	return append(slices.Clone(parts), 77, 88, 99)[:len(parts)]
}

// whole is a list with all its room.
func whole(a []api.Fix) []api.Fix { return a[:cap(a)] }

// handed are arguments that are held against what they were.
type handed struct {
	lists [][]api.Fix
	were  [][]api.Fix
}

func handIn(lists ...[]api.Fix) handed {
	h := handed{lists: lists}
	for _, l := range lists {
		h.were = append(h.were, slices.Clone(whole(l)))
	}
	return h
}

func (h handed) check(t *testing.T, name, when string) {
	t.Helper()
	for i, l := range h.lists {
		if !slices.Equal(whole(l), h.were[i]) {
			t.Errorf("%s: the argument %d was changed %s: %v, was %v", name, i+1, when, whole(l), h.were[i])
		}
	}
}

// DOC.md's rules 4 and 8, of P4.2 to P4.6: arguments stay as they are, their room too, and answers are memory of their own.
func TestMemory(t *testing.T) {
	a, b, low3 := roomy(3*one, -4*one), roomy(top, low), roomy(1, 2, 3)
	m := api.Mat{Rows: 2, Cols: 2, A: roomy(one, 2*one, -3*one, top)}
	h := handIn(a, b, low3, m.A)
	vectors := append([][]api.Fix{a, b}, low3)[:2]
	for name, c := range map[string]call{
		"Dot": dot(a, b), "Sum": sum(a), "Mean": mean(b), "Norm": norm(b),
		"Add": add(a, b), "Sub": sub(a, b), "Scale": scale(one, a), "Axpy": axpy(one, a, b),
		"MatVec": matVec(m, a), "VecMat": vecMat(a, m), "Outer": outer(a, b),
		"Clip to 0": clip(a, 0), "Clip to more": clip(a, 6*one), "Clip to less": clip(a, one),
		"Means": means(vectors), "Means of one": means(vectors[:1]),
	} {
		first := c(nil)
		h.check(t, name, "by the call")
		was := slices.Clone(first.parts)
		second := c(nil)
		for i := range whole(second.parts) {
			whole(second.parts)[i] = -5
		}
		h.check(t, name, "through the answer")
		if !slices.Equal(first.parts, was) {
			t.Errorf("%s: two answers share memory", name)
		}
	}
	if len(vectors) != 2 || &vectors[:3][2][0] != &low3[0] {
		t.Error("the list of vectors was changed")
	}
}

// DOC.md's rule 4: what is answered does not hang on what becomes of the arguments.
func TestNothingIsKept(t *testing.T) {
	a, b := roomy(3*one, -4*one), roomy(one, 2*one)
	for name, c := range map[string]call{
		"Add": add(a, b), "Sub": sub(a, b), "Scale": scale(one, a), "Axpy": axpy(one, a, b),
		"Outer": outer(a, b), "Clip to 0": clip(a, 0), "Clip to more": clip(a, top), "Clip to less": clip(a, 1),
		"Means": means([][]api.Fix{a, b}), "Means of one": means([][]api.Fix{a}),
	} {
		got := c(nil)
		was := slices.Clone(got.parts)
		a[0], a[1], b[0], b[1] = 11, 12, 13, 14
		if !slices.Equal(got.parts, was) {
			t.Errorf("%s: the answer hangs on an argument", name)
		}
		a[0], a[1], b[0], b[1] = 3*one, -4*one, one, 2*one
	}
}
