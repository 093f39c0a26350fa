package vec_test

import (
	"slices"
	"testing"

	"regatta/api"
	"regatta/fix"
	"regatta/vec"
)

// told is what a call answers, whichever it is.
type told struct {
	parts      []api.Fix
	rows, cols int
	cut        bool
	e          api.Errno
}

func (a told) same(b told) bool {
	return slices.Equal(a.parts, b.parts) && a.rows == b.rows && a.cols == b.cols && a.cut == b.cut && a.e == b.e
}

// number is an answer of one number; beside an error it is there only if it isn't 0, as it ought to be.
func number(x api.Fix, e api.Errno) told {
	if e != api.OK && x == 0 {
		return told{e: e}
	}
	return told{parts: []api.Fix{x}, e: e}
}

func vector(a []api.Fix, e api.Errno) told { return told{parts: a, e: e} }

func matrix(m api.Mat, e api.Errno) told {
	return told{parts: m.A, rows: m.Rows, cols: m.Cols, e: e}
}

func clipped(a []api.Fix, cut bool, e api.Errno) told { return told{parts: a, cut: cut, e: e} }

// call is a call of the package that waits for its unit.
type call func(u *fix.Unit) told

func dot(a, b []api.Fix) call { return func(u *fix.Unit) told { return number(vec.Dot(u, a, b)) } }

func sum(a []api.Fix) call { return func(u *fix.Unit) told { return number(vec.Sum(u, a)) } }

func mean(a []api.Fix) call { return func(u *fix.Unit) told { return number(vec.Mean(u, a)) } }

func add(a, b []api.Fix) call { return func(u *fix.Unit) told { return vector(vec.Add(u, a, b)) } }

func sub(a, b []api.Fix) call { return func(u *fix.Unit) told { return vector(vec.Sub(u, a, b)) } }

func scale(k api.Fix, a []api.Fix) call {
	return func(u *fix.Unit) told { return vector(vec.Scale(u, k, a)) }
}

func axpy(k api.Fix, x, y []api.Fix) call {
	return func(u *fix.Unit) told { return vector(vec.Axpy(u, k, x, y)) }
}

func matVec(m api.Mat, x []api.Fix) call {
	return func(u *fix.Unit) told { return vector(vec.MatVec(u, m, x)) }
}

func vecMat(x []api.Fix, m api.Mat) call {
	return func(u *fix.Unit) told { return vector(vec.VecMat(u, x, m)) }
}

func outer(x, y []api.Fix) call { return func(u *fix.Unit) told { return matrix(vec.Outer(u, x, y)) } }

func norm(a []api.Fix) call { return func(u *fix.Unit) told { return number(vec.Norm(u, a)) } }

func clip(a []api.Fix, most api.Fix) call {
	return func(u *fix.Unit) told { return clipped(vec.Clip(u, a, most)) }
}

func means(list [][]api.Fix) call {
	return func(u *fix.Unit) told { return vector(vec.Means(u, list)) }
}

// checkTold asks with a unit that has counted already, and with none: both answer what is wanted, and the one has counted so many more.
func checkTold(t *testing.T, name string, c call, want told, held int) {
	t.Helper()
	u := &fix.Unit{}
	u.Div(0, 0)
	if got := c(u); !got.same(want) || u.Count() != 1+held {
		t.Fatalf("%s: %v and counted %d, want %v and %d", name, brief(got), u.Count()-1, brief(want), held)
	}
	if got := c(nil); !got.same(want) {
		t.Fatalf("%s without a unit: %v, want %v", name, brief(got), brief(want))
	}
}

// brief leaves out what no one would read.
func brief(a told) told {
	a.parts = a.parts[:min(len(a.parts), 20)]
	return a
}

// named is a call by hand: what it answers, and how often it counts.
type named struct {
	name string
	c    call
	want []api.Fix
	held int
}

func checkNamed(t *testing.T, cases []named) {
	t.Helper()
	for _, c := range cases {
		checkTold(t, c.name, c.c, told{parts: c.want}, c.held)
	}
}

func checkRefused(t *testing.T, name string, c call, e api.Errno) {
	t.Helper()
	checkTold(t, name, c, told{e: e}, 0)
}

// list is a vector written out; one of no part is empty, not nil.
func list(parts ...api.Fix) []api.Fix { return append([]api.Fix{}, parts...) }
