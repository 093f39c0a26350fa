package mlp_test

import (
	"slices"
	"testing"

	"regatta/api"
	"regatta/fix"
	"regatta/mlp"
)

// told is what a call answers, whichever it is.
type told struct {
	lists  [][]api.Fix
	shapes [][2]int
	number int64
	e      api.Errno
}

func (a told) same(b told) bool {
	return slices.EqualFunc(a.lists, b.lists, slices.Equal[[]api.Fix]) && slices.Equal(a.shapes, b.shapes) && a.number == b.number && a.e == b.e
}

// call is a call of the package that waits for its unit.
type call func(u *fix.Unit) told

// lists are the lists of an answer; a list that isn't there counts as none.
func lists(all ...[]api.Fix) [][]api.Fix {
	return slices.DeleteFunc(all, func(a []api.Fix) bool { return len(a) == 0 })
}

func count(sizes []int) call {
	return func(u *fix.Unit) told {
		n, e := mlp.Count(sizes)
		return told{number: int64(n), e: e}
	}
}

// split tells each layer's matrix, and its offsets behind it.
func split(sizes []int, p []api.Fix) call {
	return func(u *fix.Unit) told {
		weights, offsets, e := mlp.Split(sizes, p)
		out := told{number: int64(len(weights) - len(offsets)), e: e}
		for i, m := range weights {
			out.lists = append(out.lists, m.A, offsets[i])
			out.shapes = append(out.shapes, [2]int{m.Rows, m.Cols})
		}
		return out
	}
}

func initial(seed uint64, sizes []int) call {
	return func(u *fix.Unit) told {
		p, e := mlp.Init(seed, sizes)
		return told{lists: lists(p), e: e}
	}
}

func forward(sizes []int, p, x []api.Fix) call {
	return func(u *fix.Unit) told {
		values, e := mlp.Forward(u, sizes, p, x)
		return told{lists: values, e: e}
	}
}

func loss(loss int, y, t []api.Fix) call {
	return func(u *fix.Unit) told {
		far, e := mlp.Loss(u, loss, y, t)
		return told{number: int64(far), e: e}
	}
}

func slope(loss int, y, t []api.Fix) call {
	return func(u *fix.Unit) told {
		s, e := mlp.Slope(u, loss, y, t)
		return told{lists: lists(s), e: e}
	}
}

func gradient(loss int, sizes []int, p []api.Fix, x api.Example) call {
	return func(u *fix.Unit) told {
		g, far, e := mlp.Gradient(u, loss, sizes, p, x)
		return told{lists: lists(g), number: int64(far), e: e}
	}
}

func batch(loss int, sizes []int, p []api.Fix, list []api.Example) call {
	return func(u *fix.Unit) told {
		g, far, e := mlp.Batch(u, loss, sizes, p, list)
		return told{lists: lists(g), number: int64(far), e: e}
	}
}

// checkTold asks with a unit that has counted already, and with none: both answer what is wanted, and the one has counted so many more.
func checkTold(t *testing.T, name string, c call, want told, held int) {
	t.Helper()
	u := &fix.Unit{}
	u.Div(0, 0)
	if got := c(u); !got.same(want) || u.Count() != 1+held {
		t.Fatalf("%s: %v and counted %d, want %v and %d", name, brief(got), u.Count()-1, brief(want), held)
	}
	if got := c(nil); !got.same(want) {
		t.Fatalf("%s without a unit: %v, want %v", name, brief(got), brief(want))
	}
}

// brief leaves out what no one would read.
func brief(a told) told {
	a.lists = slices.Clone(a.lists)
	for i, l := range a.lists {
		a.lists[i] = l[:min(len(l), 30)]
	}
	return a
}

// named is a call by hand: what it answers, and how often it counts.
type named struct {
	name string
	c    call
	want told
	held int
}

func checkNamed(t *testing.T, cases []named) {
	t.Helper()
	for _, c := range cases {
		checkTold(t, c.name, c.c, c.want, c.held)
	}
}

// refused is a call that answers an error, and nothing else.
type refused struct {
	name string
	c    call
	e    api.Errno
}

func checkRefused(t *testing.T, cases []refused) {
	t.Helper()
	for _, c := range cases {
		checkTold(t, c.name, c.c, told{e: c.e}, 0)
	}
}
