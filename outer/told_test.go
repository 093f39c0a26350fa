package outer_test

import (
	"slices"
	"testing"

	"regatta/api"
	"regatta/fix"
	"regatta/outer"
)

// task is what a step is given.
type task struct {
	rate, moment api.Fix
	o            api.Outer
	g            []api.Fix
}

// told is what a step answers.
type told struct {
	o api.Outer
	e api.Errno
}

func (k task) step(u *fix.Unit) told {
	o, e := outer.Step(u, k.rate, k.moment, k.o, k.g)
	return told{o, e}
}

func sameOuter(a, b api.Outer) bool {
	return slices.Equal(a.P, b.P) && slices.Equal(a.B, b.B)
}

func (a told) same(b told) bool { return sameOuter(a.o, b.o) && a.e == b.e }

// short leaves out what no one would read.
func short(a []api.Fix) []api.Fix { return a[:min(len(a), 20)] }

func (a told) brief() told { return told{outerOf(short(a.o.P), short(a.o.B)), a.e} }

// counted is a unit that has counted one already, so that a call that sets the count is found out.
func counted() *fix.Unit {
	u := &fix.Unit{}
	u.Div(0, 0)
	return u
}

// checkTold asks with a unit that has counted already, and with none: both answer what is wanted, and the one has counted so many more.
func checkTold(t *testing.T, name string, k task, want told, held int) {
	t.Helper()
	u := counted()
	if got := k.step(u); !got.same(want) || u.Count() != 1+held {
		t.Fatalf("%s: %v and counted %d, want %v and %d", name, got.brief(), u.Count()-1, want.brief(), held)
	}
	if got := k.step(nil); !got.same(want) {
		t.Fatalf("%s without a unit: %v, want %v", name, got.brief(), want.brief())
	}
}

// checkModel holds a step against the model.
func checkModel(t *testing.T, name string, k task) {
	t.Helper()
	m := &model{}
	want := m.step(k)
	checkTold(t, name, k, want, m.held)
}

func checkRefused(t *testing.T, name string, k task, e api.Errno) {
	t.Helper()
	checkTold(t, name, k, told{e: e}, 0)
}

// byHand is a step that was reckoned outside of the program.
type byHand struct {
	name string
	k    task
	p, b []api.Fix
	held int
}

func checkByHand(t *testing.T, cases []byHand) {
	t.Helper()
	for _, c := range cases {
		checkTold(t, c.name, c.k, told{o: outerOf(c.p, c.b)}, c.held)
	}
}

// checkDelta asks for a delta with a unit that has counted already, and with none.
func checkDelta(t *testing.T, name string, start, end, want []api.Fix, e api.Errno, held int) {
	t.Helper()
	u := counted()
	if got, err := outer.Delta(u, start, end); !slices.Equal(got, want) || err != e || u.Count() != 1+held {
		t.Fatalf("%s: %v, %d and counted %d, want %v, %d and %d", name, short(got), err, u.Count()-1, short(want), e, held)
	}
	if got, err := outer.Delta(nil, start, end); !slices.Equal(got, want) || err != e {
		t.Fatalf("%s without a unit: %v, %d, want %v, %d", name, short(got), err, short(want), e)
	}
}

// outerOf is an outer written out.
func outerOf(p, b []api.Fix) api.Outer { return api.Outer{P: p, B: b} }

// still is an outer without momentum that no call made.
func still(p ...api.Fix) api.Outer { return outerOf(p, make([]api.Fix, len(p))) }
