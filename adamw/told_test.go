package adamw_test

import (
	"slices"
	"testing"

	"regatta/adamw"
	"regatta/api"
	"regatta/fix"
)

// task is what a step is given.
type task struct {
	x    api.Inner
	s    api.Adam
	p, g []api.Fix
}

// told is what a step answers.
type told struct {
	s api.Adam
	p []api.Fix
	e api.Errno
}

func (k task) step(u *fix.Unit) told {
	s, p, e := adamw.Step(u, k.x, k.s, k.p, k.g)
	return told{s, p, e}
}

func sameState(a, b api.Adam) bool {
	return slices.Equal(a.M, b.M) && slices.Equal(a.V, b.V) && a.T == b.T
}

func (a told) same(b told) bool {
	return sameState(a.s, b.s) && slices.Equal(a.p, b.p) && a.e == b.e
}

// brief leaves out what no one would read.
func (a told) brief() told {
	short := func(a []api.Fix) []api.Fix { return a[:min(len(a), 20)] }
	return told{api.Adam{M: short(a.s.M), V: short(a.s.V), T: a.s.T}, short(a.p), a.e}
}

// checkTold asks with a unit that has counted already, and with none: both answer what is wanted, and the one has counted so many more.
func checkTold(t *testing.T, name string, k task, want told, held int) {
	t.Helper()
	u := &fix.Unit{}
	u.Div(0, 0)
	if got := k.step(u); !got.same(want) || u.Count() != 1+held {
		t.Fatalf("%s: %v and counted %d, want %v and %d", name, got.brief(), u.Count()-1, want.brief(), held)
	}
	if got := k.step(nil); !got.same(want) {
		t.Fatalf("%s without a unit: %v, want %v", name, got.brief(), want.brief())
	}
}

// checkModel holds a step against the model.
func checkModel(t *testing.T, name string, k task) {
	t.Helper()
	m := &model{}
	want := m.step(k)
	checkTold(t, name, k, want, m.held)
}

func checkRefused(t *testing.T, name string, k task, e api.Errno) {
	t.Helper()
	checkTold(t, name, k, told{e: e}, 0)
}

// state is both means written out, behind so many steps.
func state(m, v []api.Fix, t int) api.Adam { return api.Adam{M: m, V: v, T: t} }

// nought is a state of n noughts that no call made.
func nought(n int) api.Adam { return state(make([]api.Fix, n), make([]api.Fix, n), 0) }

func base(b api.Fix) api.Rates { return api.Rates{Base: b} }
