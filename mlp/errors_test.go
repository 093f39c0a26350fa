package mlp_test

import (
	"math"
	"testing"

	"regatta/api"
)

// The numbers below are such that each call would hold something, if it were made.

// noLosses are numbers that are no loss's.
func noLosses() []int {
	return []int{0, 3, -1, -2, 4, 100, math.MaxInt, math.MinInt, 1<<32 + api.Squared, 1<<32 + api.Hinge}
}

// P7.1 to P7.6: sizes that aren't right come ahead of all else.
func TestWrongSizes(t *testing.T) {
	many := make([]api.Example, api.MaxBatch+1)
	for _, sizes := range wrongSizes() {
		p := full(4, top)
		x := example(full(1, top), full(1, low))
		checkRefused(t, []refused{
			{"Count", count(sizes), api.ErrSizes},
			{"Split", split(sizes, p), api.ErrSizes},
			{"Split of none", split(sizes, nil), api.ErrSizes},
			{"Init", initial(1, sizes), api.ErrSizes},
			{"Init, the least seed", initial(0, sizes), api.ErrSizes},
			{"Init, the greatest seed", initial(math.MaxUint64, sizes), api.ErrSizes},
			{"Forward", forward(sizes, p, full(2, top)), api.ErrSizes},
			{"Forward of none", forward(sizes, nil, nil), api.ErrSizes},
			{"Gradient", gradient(api.Squared, sizes, p, x), api.ErrSizes},
			{"Gradient by no loss", gradient(0, sizes, p, x), api.ErrSizes},
			{"Gradient of none", gradient(api.Hinge, sizes, nil, api.Example{}), api.ErrSizes},
			{"Batch", batch(api.Squared, sizes, p, []api.Example{x}), api.ErrSizes},
			{"Batch by no loss", batch(3, sizes, p, []api.Example{x}), api.ErrSizes},
			{"Batch of no example", batch(api.Hinge, sizes, p, nil), api.ErrSizes},
			{"Batch of too many by no loss", batch(3, sizes, nil, many), api.ErrSizes},
		})
	}
}

// P7.4, P7.5, P7.6: then a loss that is none.
func TestNoLoss(t *testing.T) {
	sizes, p := sizesOf(1, 1), full(2, top)
	x := example(full(1, top), full(1, low))
	many := make([]api.Example, api.MaxBatch+1)
	for _, kind := range noLosses() {
		checkRefused(t, []refused{
			{"Loss", loss(kind, x.X, x.T), api.ErrLoss},
			{"Loss of none", loss(kind, nil, nil), api.ErrLoss},
			{"Loss of unlike ones", loss(kind, x.X, nil), api.ErrLoss},
			{"Loss of too many", loss(kind, full(api.MaxDim+1, top), full(api.MaxDim+1, low)), api.ErrLoss},
			{"Slope", slope(kind, x.X, x.T), api.ErrLoss},
			{"Slope of none", slope(kind, nil, nil), api.ErrLoss},
			{"Slope of unlike ones", slope(kind, nil, x.T), api.ErrLoss},
			{"Slope of too many", slope(kind, full(api.MaxDim+1, top), full(api.MaxDim+1, low)), api.ErrLoss},
			{"Gradient", gradient(kind, sizes, p, x), api.ErrLoss},
			{"Gradient of wrong parameters", gradient(kind, sizes, nil, x), api.ErrLoss},
			{"Gradient at a wrong example", gradient(kind, sizes, p, api.Example{}), api.ErrLoss},
			{"Batch", batch(kind, sizes, p, []api.Example{x}), api.ErrLoss},
			{"Batch of no example", batch(kind, sizes, p, nil), api.ErrLoss},
			{"Batch of too many", batch(kind, sizes, p, many), api.ErrLoss},
			{"Batch of wrong parameters", batch(kind, sizes, nil, []api.Example{x}), api.ErrLoss},
			{"Batch of a wrong example", batch(kind, sizes, p, many[:1]), api.ErrLoss},
		})
	}
}

// P7.6: then how many examples there are.
func TestTooFewOrTooManyExamples(t *testing.T) {
	sizes, p := sizesOf(1, 1), full(2, top)
	x := example(full(1, top), full(1, low))
	many := make([]api.Example, api.MaxBatch+1)
	for i := range many {
		many[i] = x
	}
	for _, kind := range []int{api.Squared, api.Hinge} {
		checkRefused(t, []refused{
			{"none", batch(kind, sizes, p, nil), api.ErrArg},
			{"none, made", batch(kind, sizes, p, many[:0]), api.ErrArg},
			{"none, and wrong parameters", batch(kind, sizes, nil, nil), api.ErrArg},
			{"too many", batch(kind, sizes, p, many), api.ErrArg},
			{"too many, and wrong parameters", batch(kind, sizes, full(3, top), many), api.ErrArg},
			{"too many wrong ones", batch(kind, sizes, p, make([]api.Example, api.MaxBatch+1)), api.ErrArg},
			{"far too many", batch(kind, sizes, p, make([]api.Example, 5000)), api.ErrArg},
		})
		if got := batch(kind, sizes, p, many[1:])(nil); got.e != api.OK {
			t.Error("as many as may be", got.e)
		}
	}
}

// counts are no part, one too few, as many as there should be, one too many, and far too many.
func counts(right int) []int { return []int{0, right - 1, right, right + 1, api.MaxDim + 1} }

func errorOf(fits bool) api.Errno {
	if fits {
		return api.OK
	}
	return api.ErrShape
}

// P7.1, P7.3, P7.5, P7.6: lists that have not as many parts as the net asks for, in all their companies.
func TestWrongShapes(t *testing.T) {
	for _, sizes := range [][]int{{2, 3}, {3, 2, 2}, {1, 1}, {2, 1, 1, 1, 1, 4}} {
		ends := [2]int{sizes[0], sizes[len(sizes)-1]}
		dim := net{sizes: sizes}.first(len(sizes) - 1)
		for _, p := range counts(dim) {
			checkError(t, "Split", split(sizes, full(p, top)), errorOf(p == dim))
			for _, x := range counts(ends[0]) {
				checkError(t, "Forward", forward(sizes, full(p, top), full(x, top)), errorOf(p == dim && x == ends[0]))
				for _, to := range counts(ends[1]) {
					e := errorOf(p == dim && x == ends[0] && to == ends[1])
					for _, kind := range []int{api.Squared, api.Hinge} {
						at := example(full(x, top), full(to, low))
						checkError(t, "Gradient", gradient(kind, sizes, full(p, top), at), e)
						checkError(t, "Batch", batch(kind, sizes, full(p, top), []api.Example{at}), e)
					}
				}
			}
		}
	}
}

// checkError looks at the error alone where there is none, and else that there is nothing beside it.
func checkError(t *testing.T, name string, c call, e api.Errno) {
	t.Helper()
	if e != api.OK {
		checkTold(t, name, c, told{e: e}, 0)
	} else if got := c(nil); got.e != api.OK || len(got.lists) == 0 {
		t.Fatal(name, got.e)
	}
}

// P7.6: one wrong example, wherever it stands among right ones, and nothing is counted of those ahead of it.
func TestOneWrongExample(t *testing.T) {
	sizes, p := sizesOf(2, 1), full(3, top)
	right := example(full(2, top), full(1, low))
	wrong := []api.Example{
		{}, example(nil, right.T), example(right.X, nil), example(full(1, top), right.T), example(full(3, top), right.T),
		example(right.X, full(2, low)), example(right.T, right.X), example(full(api.MaxDim+1, top), right.T),
	}
	for _, n := range []int{1, 2, 5, api.MaxBatch} {
		for _, bad := range wrong {
			for _, at := range []int{0, n / 2, n - 1} {
				examples := make([]api.Example, n)
				for i := range examples {
					examples[i] = right
				}
				examples[at] = bad
				for _, kind := range []int{api.Squared, api.Hinge} {
					checkRefused(t, []refused{{"one wrong example", batch(kind, sizes, p, examples), api.ErrShape}})
				}
			}
		}
	}
}

// P7.4: outputs and targets that are unlike, or more than a vector may have.
func TestWrongOutputs(t *testing.T) {
	for _, kind := range []int{api.Squared, api.Hinge} {
		for _, n := range []int{0, 1, 2, 7, api.MaxDim - 1, api.MaxDim, api.MaxDim + 1} {
			for _, m := range []int{0, 1, 2, 7, api.MaxDim - 1, api.MaxDim, api.MaxDim + 1} {
				y, to := full(n, top), full(m, low)
				if n == m && n <= api.MaxDim {
					if got := slope(kind, y, to)(nil); got.e != api.OK || n > 0 && len(got.lists[0]) != n {
						t.Fatal(kind, n, got.e)
					}
					continue
				}
				checkRefused(t, []refused{
					{"Loss", loss(kind, y, to), api.ErrShape},
					{"Slope", slope(kind, y, to), api.ErrShape},
				})
			}
		}
	}
}
