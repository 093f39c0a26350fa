package vec_test

import (
	"testing"

	"regatta/api"
)

// P4.2
func TestDotByHand(t *testing.T) {
	checkNamed(t, []named{
		{"(1, 2) and (3, -1)", dot(list(one, 2*one), list(3*one, -one)), list(one), 0},
		{"no parts", dot(nil, nil), list(0), 0},
		{"no parts, one list made", dot(list(), nil), list(0), 0},
		{"two halves", dot(list(1, 1), list(half, half)), list(1), 0},
		{"two halves below 0", dot(list(-1, -1), list(half, half)), list(-1), 0},
		{"half a step", dot(list(1), list(half)), list(0), 0},
		{"half a step below 0", dot(list(-1), list(half)), list(0), 0},
		{"above half a step", dot(list(1), list(half+1)), list(1), 0},
		{"below half a step", dot(list(1), list(half-1)), list(0), 0},
		{"just over half a step, in two", dot(list(1, 1), list(half, 1)), list(1), 0},
		{"just under half a step, in two", dot(list(1, -1), list(half, 1)), list(0), 0},
		{"1.5 steps", dot(list(1, 1, 1), list(half, half, half)), list(2), 0},
		{"-1.5 steps", dot(list(1, 1, 1), list(-half, -half, -half)), list(-2), 0},
		{"2.5 steps", dot(list(4, 1), list(half, half)), list(2), 0},
		{"-2.5 steps", dot(list(-4, -1), list(half, half)), list(-2), 0},
		{"many parts below half a step", dot(full(1<<16, 1), full(1<<16, 1<<16)), list(1), 0},
		{"one step squared", dot(list(1), list(-1)), list(0), 0},
		{"the upper end", dot(list(top), list(one)), list(top), 0},
		{"the lower end", dot(list(low), list(one)), list(low), 0},
		{"to the upper end and half a step", dot(list(top, 1), list(one, half)), list(top), 1},
		{"to the upper end and less than half a step", dot(list(top, 1), list(one, half-1)), list(top), 0},
		{"to the lower end and half a step", dot(list(low, -1), list(one, half)), list(low), 0},
		{"to the lower end and more than half a step", dot(list(low, -1), list(one, half+1)), list(low), 1},
		{"beyond and back", dot(list(top, top, 7), list(2*one, -2*one, one)), list(7), 0},
		{"all squares of the lower end", dot(full(api.MaxDim, low), full(api.MaxDim, low)), list(top), 1},
		{"all products of both ends", dot(full(api.MaxDim, low), full(api.MaxDim, top)), list(low), 1},
	})
}

// P4.2
func TestSumByHand(t *testing.T) {
	checkNamed(t, []named{
		{"no parts", sum(nil), list(0), 0},
		{"no parts, made", sum(list()), list(0), 0},
		{"one part", sum(list(-1)), list(-1), 0},
		{"1, 2 and -4", sum(list(one, 2*one, -4*one)), list(-one), 0},
		{"the upper end", sum(list(top)), list(top), 0},
		{"the lower end", sum(list(low)), list(low), 0},
		{"a step above", sum(list(top, 1)), list(top), 1},
		{"a step below", sum(list(low, -1)), list(low), 1},
		{"above and back", sum(list(top, 1, -1)), list(top), 0},
		{"below and back", sum(list(-1, low, 1)), list(low), 0},
		{"both ends", sum(list(top, low)), list(-1), 0},
		{"all at the upper end", sum(full(api.MaxDim, top)), list(top), 1},
		{"all at the lower end", sum(full(api.MaxDim, low)), list(low), 1},
		{"all a step", sum(full(api.MaxDim, 1)), list(1 << 16), 0},
	})
}

// P4.2
func TestMeanByHand(t *testing.T) {
	checkNamed(t, []named{
		{"one part", mean(list(-7)), list(-7), 0},
		{"1, 2 and 6", mean(list(one, 2*one, 6*one)), list(3 * one), 0},
		{"half a step", mean(list(0, 1)), list(0), 0},
		{"half a step below 0", mean(list(0, -1)), list(0), 0},
		{"1.5 steps", mean(list(1, 2)), list(2), 0},
		{"-1.5 steps", mean(list(-1, -2)), list(-2), 0},
		{"2.5 steps", mean(list(2, 3)), list(2), 0},
		{"-2.5 steps", mean(list(-2, -3)), list(-2), 0},
		{"a third of a step", mean(list(0, 0, 1)), list(0), 0},
		{"two thirds of a step", mean(list(1, 0, 1)), list(1), 0},
		{"two thirds of a step below 0", mean(list(-1, 0, -1)), list(-1), 0},
		{"a third of 1", mean(list(one, 0, 0)), list(1431655765), 0},
		{"the upper end", mean(list(top, top)), list(top), 0},
		{"half a step from the upper end", mean(list(top, top-1)), list(top - 1), 0},
		{"half a step from the lower end", mean(list(low, low+1)), list(low), 0},
		{"both ends", mean(list(top, low)), list(0), 0},
		{"both ends, and the lower one once more", mean(list(top, low, low)), list(-3074457345618258603), 0},
		{"all at the upper end", mean(full(api.MaxDim, top)), list(top), 0},
		{"all at the lower end", mean(full(api.MaxDim, low)), list(low), 0},
	})
}

// P4.3
func TestPartByPartByHand(t *testing.T) {
	checkNamed(t, []named{
		{"Add of no parts", add(nil, list()), nil, 0},
		{"Add", add(list(one, -1), list(2*one, 1)), list(3*one, 0), 0},
		{"Add at the ends", add(list(top, top, low, low, top), list(1, 0, -1, 0, low)), list(top, top, low, low, -1), 2},
		{"Add of a part", add(list(low), list(low)), list(low), 1},
		{"Sub of no parts", sub(list(), nil), nil, 0},
		{"Sub", sub(list(one, -1), list(2*one, 1)), list(-one, -2), 0},
		{"Sub at the ends", sub(list(top, top, low, low, 0, -1), list(-1, 0, 1, 0, low, low)), list(top, top, low, low, top, top), 3},
		{"Scale of no parts", scale(top, nil), nil, 0},
		{"Scale", scale(-2*one, list(3*one, -1, 0)), list(-6*one, 2, 0), 0},
		{"Scale to halves", scale(half, list(1, 3, 5, -1, -3, -5)), list(0, 2, 2, 0, -2, -2), 0},
		{"Scale at the ends", scale(-one, list(top, low, low+1)), list(low+1, top, top), 1},
		{"Scale beyond", scale(2*one, list(top, low, 1, top)), list(top, low, 2, top), 3},
		{"Scale by a step", scale(1, list(half, half+1, -half, -half-1)), list(0, 1, 0, -1), 0},
		{"Axpy of no parts", axpy(top, nil, list()), nil, 0},
		{"Axpy", axpy(2*one, list(one, -3), list(5, 7*one)), list(2*one+5, 7*one-6), 0},
		{"Axpy to halves", axpy(1, full(4, half), list(4, 5, -4, -5)), list(4, 6, -4, -4), 0},
		{"Axpy to halves, less", axpy(-1, full(4, half), list(4, 5, -4, -5)), list(4, 4, -4, -6), 0},
		{"Axpy beyond and back", axpy(-2*one, list(top, low), list(top, low)), list(-top, top), 1},
		{"Axpy of three at the ends", axpy(low, list(low, top), list(low, top)), list(top, low), 2},
		{"Axpy at the upper end", axpy(1, list(half-1, half, half+1), full(3, top)), list(top, top, top), 2},
		{"Axpy at the lower end", axpy(-1, list(half-1, half, half+1), full(3, low)), list(low, low, low), 1},
		{"Axpy by nought", axpy(0, list(top, low), list(-1, 1)), list(-1, 1), 0},
	})
}

// lengths of vectors that are held against the model; a few long ones, as these take their time.
var lengths = []int{0, 1, 2, 3, 4, 5, 7, 8, 16, 33, 64, 255, 1000}

// P4.2
func TestSumsOfMixedVectors(t *testing.T) {
	m := mixed(4)
	for _, n := range append(lengths, api.MaxDim-1, api.MaxDim) {
		for range max(1, 400/(n+1)) {
			a, b, r := vectorOf(m, n), vectorOf(m, n), &model{}
			checkTold(t, "Dot", dot(a, b), number(r.dot(a, b), api.OK), r.held)
			r = &model{}
			checkTold(t, "Sum", sum(a), number(r.sum(a), api.OK), r.held)
			if n > 0 {
				r = &model{}
				checkTold(t, "Mean", mean(a), number(r.mean(a), api.OK), r.held)
			}
		}
	}
}

// P4.3
func TestPartByPartOfMixedVectors(t *testing.T) {
	m := mixed(5)
	for _, n := range append(lengths, api.MaxDim-1, api.MaxDim) {
		for range max(1, 400/(n+1)) {
			k, a, b, r := numberOf(m), vectorOf(m, n), vectorOf(m, n), &model{}
			checkTold(t, "Add", add(a, b), vector(r.add(a, b), api.OK), r.held)
			r = &model{}
			checkTold(t, "Sub", sub(a, b), vector(r.sub(a, b), api.OK), r.held)
			r = &model{}
			checkTold(t, "Scale", scale(k, a), vector(r.scale(k, a), api.OK), r.held)
			r = &model{}
			checkTold(t, "Axpy", axpy(k, a, b), vector(r.axpy(k, a, b), api.OK), r.held)
		}
	}
}

// P4.2, P4.3: a vector may be handed in twice.
func TestOneVectorTwice(t *testing.T) {
	a := list(3*one, -4*one)
	checkNamed(t, []named{
		{"Dot", dot(a, a), list(25 * one), 0},
		{"Add", add(a, a), list(6*one, -8*one), 0},
		{"Sub", sub(a, a), list(0, 0), 0},
		{"Axpy", axpy(-one, a, a), list(0, 0), 0},
	})
}

// P4.5: the squares of all but the last parts leave 365 to 2^126, of which 2^63 is the root.
func TestNormByHand(t *testing.T) {
	near := list(top, one-1, 92681, 408)
	checkNamed(t, []named{
		{"no parts", norm(nil), list(0), 0},
		{"(3, 4)", norm(list(3*one, 4*one)), list(5 * one), 0},
		{"(3, -4)", norm(list(3*one, -4*one)), list(5 * one), 0},
		{"a step", norm(list(1)), list(1), 0},
		{"a step below 0", norm(list(-1)), list(1), 0},
		{"two steps, down", norm(list(1, -1)), list(1), 0},
		{"three steps, down", norm(list(1, 1, 1)), list(1), 0},
		{"four steps", norm(list(1, 1, 1, 1)), list(2), 0},
		{"(1, 1), down", norm(list(one, one)), list(6074000999), 0},
		{"noughts", norm(full(9, 0)), list(0), 0},
		{"the upper end", norm(list(top)), list(top), 0},
		{"the upper end, and a step", norm(list(top, 1)), list(top), 0},
		{"the lower end", norm(list(low)), list(top), 1},
		{"a step above the lower end", norm(list(low + 1)), list(top), 0},
		{"just not beyond", norm(append(near, 18, 6, 2)), list(top), 0},
		{"just beyond", norm(append(near, 19, 2)), list(top), 1},
		{"both ends", norm(list(top, low)), list(top), 1},
		{"all 1", norm(full(api.MaxDim, one)), list(256 * one), 0},
		{"all at the lower end", norm(full(api.MaxDim, low)), list(top), 1},
	})
}

func checkClip(t *testing.T, name string, a []api.Fix, most api.Fix, want []api.Fix, cut bool, held int) {
	t.Helper()
	checkTold(t, name, clip(a, most), told{parts: want, cut: cut}, held)
}

// P4.5
func TestClipByHand(t *testing.T) {
	a := list(3*one, -4*one)
	checkClip(t, "to 1", a, one, list(3*858993459, -4*858993459), true, 0)
	checkClip(t, "to 0", a, 0, a, false, 0)
	checkClip(t, "to a step below 0", a, -1, a, false, 0)
	checkClip(t, "to the lower end", a, low, a, false, 0)
	checkClip(t, "to its norm", a, 5*one, a, false, 0)
	checkClip(t, "to a step above its norm", a, 5*one+1, a, false, 0)
	checkClip(t, "to a step below its norm", a, 5*one-1, a, true, 0)
	checkClip(t, "to the upper end", a, top, a, false, 0)
	checkClip(t, "to a step", a, 1, list(0, 0), true, 0)
	checkClip(t, "in steps, to its norm", list(3, -4), 5, list(3, -4), false, 0)
	checkClip(t, "in steps, to a step above its norm", list(3, -4), 6, list(3, -4), false, 0)
	checkClip(t, "in steps, to a step below its norm", list(3, -4), 4, list(2, -3), true, 0)
	checkClip(t, "to a norm that was brought down", list(1, 1), 1, list(1, 1), false, 0)
	checkClip(t, "no parts", nil, 1, nil, false, 0)
	checkClip(t, "noughts", list(0, 0), 1, list(0, 0), false, 0)
}

// P4.5: a norm that is held is counted once; one that isn't asked for isn't.
func TestClipOfWhatIsHeld(t *testing.T) {
	a := list(low, top)
	checkClip(t, "to the upper end", a, top, a, false, 1)
	checkClip(t, "to a step below it", a, top-1, a, true, 1)
	checkClip(t, "to half of it", a, 1<<62, list(-1<<62, 1<<62), true, 1)
	checkClip(t, "to a step", a, 1, list(0, 0), true, 1)
	checkClip(t, "to 0", a, 0, a, false, 0)
	checkClip(t, "to the lower end", a, low, a, false, 0)
}

// P4.5
func TestNormAndClipOfMixedVectors(t *testing.T) {
	m := mixed(6)
	for _, n := range append(lengths, api.MaxDim-1, api.MaxDim) {
		for range max(1, 400/(n+1)) {
			a, r := vectorOf(m, n), &model{}
			length := r.norm(a)
			checkTold(t, "Norm", norm(a), number(length, api.OK), r.held)
			for _, most := range []api.Fix{numberOf(m), length / 2, length - 1, length, length + min(1, top-length)} {
				r = &model{}
				want, cut := r.clip(a, most)
				checkClip(t, "Clip", a, most, want, cut, r.held)
			}
		}
	}
}

// P4.6
func TestMeansByHand(t *testing.T) {
	many := make([][]api.Fix, api.MaxWorkers)
	for i := range many {
		many[i] = list(api.Fix(i), top, low, -1)
	}
	checkNamed(t, []named{
		{"one vector", means([][]api.Fix{list(1, top, low)}), list(1, top, low), 0},
		{"no parts", means([][]api.Fix{nil, list(), nil}), nil, 0},
		{"two vectors", means([][]api.Fix{list(one, -2*one, 0), list(3*one, -one, 0)}), list(2*one, -3*one/2, 0), 0},
		{"halves", means([][]api.Fix{list(0, 1, 2, 0, -1, -2), list(1, 2, 3, -1, -2, -3)}), list(0, 2, 2, 0, -2, -2), 0},
		{"ends", means([][]api.Fix{list(top, low, top), list(top, low, low)}), list(top, low, 0), 0},
		{"thirds", means([][]api.Fix{list(one, 1), list(0, 1), list(0, 0)}), list(1431655765, 1), 0},
		{"as many as there may be", means(many), list(32, top, low, -1), 0},
	})
}

// P4.6
func TestMeansOfMixedVectors(t *testing.T) {
	m := mixed(7)
	shapes := [][2]int{{2, api.MaxDim}, {api.MaxWorkers, 3}, {api.MaxWorkers - 1, 1000}}
	for _, n := range lengths {
		shapes = append(shapes, [2]int{1 + m.IntN(api.MaxWorkers), n})
	}
	for _, shape := range shapes {
		var vectors [][]api.Fix
		for range shape[0] {
			vectors = append(vectors, vectorOf(m, shape[1]))
		}
		r := &model{}
		checkTold(t, "Means", means(vectors), vector(r.means(vectors), api.OK), r.held)
	}
}
