package vec_test

import (
	"math"
	"testing"

	"regatta/api"
	"regatta/vec"
)

func mat(rows, cols, numbers int) api.Mat {
	return api.Mat{Rows: rows, Cols: cols, A: full(numbers, top)}
}

// right and wrong are matrices at the edges of what one is.
func right() []api.Mat {
	return []api.Mat{
		mat(1, 1, 1), mat(2, 3, 6), mat(3, 2, 6), mat(1, 5, 5), mat(5, 1, 5),
		mat(1, api.MaxDim, api.MaxDim), mat(api.MaxDim, 1, api.MaxDim), mat(256, 256, api.MaxDim), mat(2, 32768, api.MaxDim),
		mat(3, 21845, api.MaxDim-1), mat(21845, 3, api.MaxDim-1),
	}
}

func wrong() []api.Mat {
	roomy := mat(2, 2, 4)
	roomy.A = roomy.A[:3]
	return []api.Mat{
		{}, {Rows: 1, Cols: 1}, mat(0, 0, 0), mat(0, 1, 0), mat(1, 0, 0), mat(0, 1, 1), mat(1, 0, 1),
		mat(-1, -1, 1), mat(-2, -3, 6), mat(-1, 1, 1), mat(1, -1, 1), mat(-1, 1, 0),
		mat(2, 3, 5), mat(2, 3, 7), mat(2, 3, 0), mat(1, 1, 2), mat(1, 1, 0), roomy,
		mat(1, api.MaxDim+1, api.MaxDim+1), mat(api.MaxDim+1, 1, api.MaxDim+1), mat(257, 256, 257*256), mat(256, 257, 257*256),
		mat(3, 21846, 3*21846), mat(21846, 3, 3*21846), mat(api.MaxDim, api.MaxDim, 0),
		mat(1<<32, 1<<32, 0), mat(1<<62, 4, 0), mat(4, 1<<62, 0), mat(1<<33, 1<<31, 0),
		mat(math.MaxInt, math.MaxInt, 1), mat(math.MaxInt, 1, 1), mat(1, math.MaxInt, 1), mat(math.MinInt, math.MinInt, 0), mat(math.MinInt, 2, 0), mat(2, math.MinInt, 0),
		mat(1<<32+1, 1<<32, 1<<15), mat(6700417<<40, 641<<24, 0),
	}
}

// P4.1
func TestRight(t *testing.T) {
	for _, m := range right() {
		if !vec.Right(m) {
			t.Errorf("%d by %d of %d numbers isn't right", m.Rows, m.Cols, len(m.A))
		}
	}
	for _, m := range wrong() {
		if vec.Right(m) {
			t.Errorf("%d by %d of %d numbers is right", m.Rows, m.Cols, len(m.A))
		}
	}
}

// P4.1: all small shapes.
func TestRightOfSmallOnes(t *testing.T) {
	for rows := -2; rows < 6; rows++ {
		for cols := -2; cols < 6; cols++ {
			for n := range 30 {
				want := rows >= 1 && cols >= 1 && n == rows*cols
				if got := vec.Right(mat(rows, cols, n)); got != want {
					t.Fatalf("%d by %d of %d numbers: %t", rows, cols, n, got)
				}
			}
		}
	}
}

func checkOuter(t *testing.T, name string, x, y, want []api.Fix, held int) {
	t.Helper()
	checkTold(t, name, outer(x, y), told{parts: want, rows: len(x), cols: len(y)}, held)
}

// P4.4
func TestMatricesByHand(t *testing.T) {
	m := api.Mat{Rows: 2, Cols: 3, A: list(one, 2*one, 3*one, -4*one, -5*one, -6*one)}
	ends := api.Mat{Rows: 2, Cols: 2, A: list(top, top, low, low)}
	halves := api.Mat{Rows: 2, Cols: 2, A: list(1, 1, -1, -1)}
	single := api.Mat{Rows: 1, Cols: 1, A: list(-1)}
	checkNamed(t, []named{
		{"MatVec", matVec(m, list(one, 0, 2)), list(one+6, -4*one-12), 0},
		{"VecMat", vecMat(list(one, one/4), m), list(0, 3*one/4, 3*one/2), 0},
		{"MatVec beyond", matVec(ends, list(one, 1)), list(top, low), 2},
		{"MatVec beyond and back", matVec(ends, list(2*one, -one)), list(top, low), 0},
		{"VecMat beyond and back", vecMat(list(one, one), ends), list(-1, -1), 0},
		{"VecMat beyond", vecMat(list(0, -one), ends), list(top, top), 2},
		{"MatVec of both ends", matVec(ends, list(low, low)), list(low, top), 2},
		{"MatVec of halves", matVec(halves, list(half, half)), list(1, -1), 0},
		{"VecMat of halves", vecMat(list(half, -half), halves), list(1, 1), 0},
		{"MatVec of one number", matVec(single, list(3*half)), list(-2), 0},
		{"VecMat of one number", vecMat(list(half), single), list(0), 0},
	})
	checkOuter(t, "Outer", list(one, -2*one), list(3*one, 0, 1), list(3*one, 0, 1, -6*one, 0, -2), 0)
	checkOuter(t, "Outer of halves", list(1, -3), list(half, half+1, -half), list(0, 1, 0, -2, -2, 2), 0)
	checkOuter(t, "Outer at the ends", list(low, top), list(low, -one, one), list(top, top, low, low, low+1, top), 3)
	checkOuter(t, "Outer of one number each", list(-one), list(top), list(low+1), 0)
}

// P4.4: as wide and as high as may be.
func TestMatricesOfAllNumbers(t *testing.T) {
	for _, m := range right() {
		if len(m.A) < api.MaxDim-1 {
			continue
		}
		checkTold(t, "MatVec", matVec(m, full(m.Cols, low)), told{parts: full(m.Rows, low)}, m.Rows)
		checkTold(t, "VecMat", vecMat(full(m.Rows, low), m), told{parts: full(m.Cols, low)}, m.Cols)
		checkOuter(t, "Outer", full(m.Rows, top), full(m.Cols, -2*one), full(len(m.A), low), len(m.A))
	}
}

// P4.4
func TestMixedMatrices(t *testing.T) {
	m := mixed(8)
	shapes := [][2]int{{64, 64}, {1, 1000}, {1000, 1}, {300, 7}}
	for rows := range 8 {
		for cols := range 8 {
			shapes = append(shapes, [2]int{1 + rows, 1 + cols})
		}
	}
	for _, shape := range shapes {
		for range 4 {
			a, x, y := matOf(m, shape[0], shape[1]), vectorOf(m, shape[0]), vectorOf(m, shape[1])
			r := &model{}
			checkTold(t, "MatVec", matVec(a, y), vector(r.matVec(a, y), api.OK), r.held)
			r = &model{}
			checkTold(t, "VecMat", vecMat(x, a), vector(r.vecMat(x, a), api.OK), r.held)
			r = &model{}
			checkOuter(t, "Outer", x, y, r.outer(x, y), r.held)
		}
	}
}
