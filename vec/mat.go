package vec

import (
	"slices"

	"regatta/api"
	"regatta/fix"
)

// Right says whether a matrix is one.
func Right(m api.Mat) bool {
	return m.Rows > 0 && m.Cols > 0 && fits(m.Rows, m.Cols) && len(m.A) == m.Rows*m.Cols
}

// MatVec is a matrix times a vector.
func MatVec(u *fix.Unit, m api.Mat, x []api.Fix) ([]api.Fix, api.Errno) {
	if e := check(Right(m) && len(x) == m.Cols, x); e != api.OK {
		return nil, e
	}
	return dots(u, rows(m), x), api.OK
}

// VecMat is a vector times a matrix.
func VecMat(u *fix.Unit, x []api.Fix, m api.Mat) ([]api.Fix, api.Errno) {
	if e := check(Right(m) && len(x) == m.Rows, x); e != api.OK {
		return nil, e
	}
	return dots(u, rows(turned(m)), x), api.OK
}

// Outer is the matrix of all products.
func Outer(u *fix.Unit, x, y []api.Fix) (api.Mat, api.Errno) {
	if e := check(len(x) > 0 && len(y) > 0, x, y); e != api.OK {
		return api.Mat{}, e
	}
	if !fits(len(x), len(y)) {
		return api.Mat{}, api.ErrBig
	}
	products := each(x, func(k api.Fix) []api.Fix { return scaled(u, k, y) })
	return api.Mat{Rows: len(x), Cols: len(y), A: slices.Concat(products...)}, api.OK
}

// fits says whether a matrix may have so many numbers; both counts are above 0. Their product may be beyond what an int holds: it isn't made.
func fits(rows, cols int) bool {
	return rows <= api.MaxDim/cols
}

func rows(m api.Mat) [][]api.Fix {
	return slices.Collect(slices.Chunk(m.A, m.Cols))
}

// turned is the matrix whose rows are m's columns.
func turned(m api.Mat) api.Mat {
	out := api.Mat{Rows: m.Cols, Cols: m.Rows, A: make([]api.Fix, len(m.A))}
	for i, row := range rows(m) {
		for j, part := range row {
			out.A[j*out.Cols+i] = part
		}
	}
	return out
}

// dots is the Dot of each vector and x.
func dots(u *fix.Unit, vectors [][]api.Fix, x []api.Fix) []api.Fix {
	return each(vectors, func(vector []api.Fix) api.Fix { return dot(u, vector, x) })
}
