package vec_test

import (
	"math"
	"testing"

	"regatta/api"
)

// The numbers below are such that each call would hold something, if it were made.

type refused struct {
	name string
	c    call
	e    api.Errno
}

func checkAllRefused(t *testing.T, cases []refused) {
	t.Helper()
	for _, c := range cases {
		checkRefused(t, c.name, c.c, c.e)
	}
}

// P4.2, P4.3, P4.5: the order of the errors is the chapter's.
func TestVectorsThatAreRefused(t *testing.T) {
	two, three := full(2, top), full(3, top)
	most, long, longer := full(api.MaxDim, top), full(api.MaxDim+1, top), full(api.MaxDim+2, top)
	for name, of := range map[string]func(a, b []api.Fix) call{
		"Dot": dot, "Add": add, "Sub": sub,
		"Axpy": func(a, b []api.Fix) call { return axpy(top, a, b) },
	} {
		checkAllRefused(t, []refused{
			{name + " of unlike ones", of(two, three), api.ErrShape},
			{name + " of unlike ones, turned", of(three, two), api.ErrShape},
			{name + " of none and some", of(nil, two), api.ErrShape},
			{name + " of some and none", of(two, nil), api.ErrShape},
			{name + " of unlike ones at the limit", of(most, most[1:]), api.ErrShape},
			{name + " of long ones", of(long, long), api.ErrBig},
			{name + " of a long one that is unlike, first", of(long, two), api.ErrBig},
			{name + " of a long one that is unlike, second", of(two, long), api.ErrBig},
			{name + " of a long one by one less", of(most, long), api.ErrBig},
			{name + " of long ones that are unlike", of(long, longer), api.ErrBig},
		})
	}
	checkAllRefused(t, []refused{
		{"Sum of a long one", sum(long), api.ErrBig},
		{"Mean of a long one", mean(long), api.ErrBig},
		{"Mean of none", mean(nil), api.ErrShape},
		{"Mean of none, made", mean(list()), api.ErrShape},
		{"Scale of a long one", scale(top, long), api.ErrBig},
		{"Scale of a long one by 0", scale(0, long), api.ErrBig},
		{"Norm of a long one", norm(long), api.ErrBig},
		{"Clip of a long one", clip(long, 1), api.ErrBig},
		{"Clip of a long one to 0", clip(long, 0), api.ErrBig},
		{"Clip of a long one below 0", clip(long, low), api.ErrBig},
	})
}

// P4.4
func TestMatricesThatAreRefused(t *testing.T) {
	long := full(api.MaxDim+1, top)
	for _, m := range wrong() {
		rows, cols := min(max(m.Rows, 0), api.MaxDim), min(max(m.Cols, 0), api.MaxDim)
		checkAllRefused(t, []refused{
			{"MatVec of what isn't right", matVec(m, full(cols, top)), api.ErrShape},
			{"VecMat of what isn't right", vecMat(full(rows, top), m), api.ErrShape},
			{"MatVec of what isn't right, and a long one", matVec(m, long), api.ErrBig},
			{"VecMat of what isn't right, and a long one", vecMat(long, m), api.ErrBig},
		})
	}
	m := mat(2, 3, 6)
	checkAllRefused(t, []refused{
		{"MatVec by as many as there are rows", matVec(m, full(2, top)), api.ErrShape},
		{"MatVec by one too many", matVec(m, full(4, top)), api.ErrShape},
		{"MatVec by none", matVec(m, nil), api.ErrShape},
		{"MatVec by a long one", matVec(m, long), api.ErrBig},
		{"VecMat by as many as there are columns", vecMat(full(3, top), m), api.ErrShape},
		{"VecMat by one too few", vecMat(full(1, top), m), api.ErrShape},
		{"VecMat by none", vecMat(nil, m), api.ErrShape},
		{"VecMat by a long one", vecMat(long, m), api.ErrBig},
		{"MatVec of a wrong one that asks for a long one", matVec(mat(1, api.MaxDim+1, 1), long), api.ErrBig},
		{"VecMat of a wrong one that asks for a long one", vecMat(long, mat(math.MaxInt, 1, 1)), api.ErrBig},
	})
}

// P4.4: a vector that is too long, then one without a part, then too many numbers.
func TestOuterIsRefused(t *testing.T) {
	long := full(api.MaxDim+1, top)
	checkAllRefused(t, []refused{
		{"none and some", outer(nil, list(top)), api.ErrShape},
		{"some and none", outer(list(top), list()), api.ErrShape},
		{"none and none", outer(nil, nil), api.ErrShape},
		{"a long one", outer(long, list(top)), api.ErrBig},
		{"a long one, second", outer(list(top), long), api.ErrBig},
		{"a long one and none", outer(long, nil), api.ErrBig},
		{"none and a long one", outer(nil, long), api.ErrBig},
		{"none, and as many as may be", outer(nil, long[1:]), api.ErrShape},
		{"too many numbers", outer(full(257, top), full(256, top)), api.ErrBig},
		{"too many numbers, turned", outer(full(256, top), full(257, top)), api.ErrBig},
		{"too many by two", outer(full(3, top), full(21846, top)), api.ErrBig},
		{"far too many numbers", outer(long[1:], long[1:]), api.ErrBig},
	})
}

// P4.6
func TestMeansAreRefused(t *testing.T) {
	long := full(api.MaxDim+1, top)
	many := make([][]api.Fix, api.MaxWorkers+1)
	for i := range many {
		many[i] = list(top)
	}
	unlike := append(many[:1:1], nil)
	checkAllRefused(t, []refused{
		{"none", means(nil), api.ErrShape},
		{"none, made", means([][]api.Fix{}), api.ErrShape},
		{"one too many", means(many), api.ErrBig},
		{"one too many, without parts", means(make([][]api.Fix, api.MaxWorkers+1)), api.ErrBig},
		{"one too many, and unlike", means(append(many[:api.MaxWorkers:api.MaxWorkers], nil)), api.ErrBig},
		{"unlike", means(unlike), api.ErrShape},
		{"unlike, turned", means([][]api.Fix{nil, list(top)}), api.ErrShape},
		{"unlike at the end", means([][]api.Fix{list(top, top), list(top, top), list(top)}), api.ErrShape},
		{"unlike in the midst", means([][]api.Fix{list(top), list(top, top), list(top)}), api.ErrShape},
		{"as many as there may be, the last unlike", means(append(many[:api.MaxWorkers-1:api.MaxWorkers-1], nil)), api.ErrShape},
		{"a long one", means([][]api.Fix{long}), api.ErrBig},
		{"a long one behind an unlike one", means([][]api.Fix{nil, list(top), long}), api.ErrBig},
		{"a long one ahead of unlike ones", means([][]api.Fix{long, nil}), api.ErrBig},
	})
}
