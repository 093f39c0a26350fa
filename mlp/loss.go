package mlp

import (
	"regatta/api"
	"regatta/fix"
	"regatta/vec"
)

// measure is a kind of loss. Both lists that it is asked about are as long, and of at most MaxDim parts.
type measure interface {
	// far is the loss of outputs y against targets t.
	far(u *fix.Unit, y, t []api.Fix) api.Fix
	// slope is which way that loss grows, for each output.
	slope(u *fix.Unit, y, t []api.Fix) []api.Fix
}

// measureOf is the loss of that number, nil if it is none.
func measureOf(loss int) measure {
	switch loss {
	case api.Squared:
		return squared{}
	case api.Hinge:
		return hinge{}
	}
	return nil
}

// Loss is how far outputs are from targets.
func Loss(u *fix.Unit, loss int, y, t []api.Fix) (api.Fix, api.Errno) {
	if e := checkOutputs(loss, y, t); e != api.OK {
		return 0, e
	}
	return measureOf(loss).far(u, y, t), api.OK
}

// Slope is which way outputs should go.
func Slope(u *fix.Unit, loss int, y, t []api.Fix) ([]api.Fix, api.Errno) {
	if e := checkOutputs(loss, y, t); e != api.OK {
		return nil, e
	}
	return measureOf(loss).slope(u, y, t), api.OK
}

// checkOutputs is the error of a loss, outputs and targets.
func checkOutputs(loss int, y, t []api.Fix) api.Errno {
	switch {
	case measureOf(loss) == nil:
		return api.ErrLoss
	case len(y) != len(t) || len(y) > api.MaxDim:
		return api.ErrShape
	}
	return api.OK
}

// squared is half the sum of the squares of how far off the outputs are.
type squared struct{}

func (q squared) far(u *fix.Unit, y, t []api.Fix) api.Fix {
	off := q.slope(u, y, t)
	// One place more halves the sum, and it is still rounded once.
	return u.Near(withProducts(api.Long{}, off, off), places+1)
}

func (squared) slope(u *fix.Unit, y, t []api.Fix) []api.Fix {
	off, _ := vec.Sub(u, y, t)
	return off
}

// hinge is the sum of what the outputs lack to lie as far as One on the side of their targets.
type hinge struct{}

func (h hinge) far(u *fix.Unit, y, t []api.Fix) api.Fix {
	lacks := make([]api.Fix, len(y))
	for i := range lacks {
		lacks[i] = max(h.lack(u, y[i], t[i]), 0)
	}
	sum, _ := vec.Sum(u, lacks)
	return sum
}

func (h hinge) slope(u *fix.Unit, y, t []api.Fix) []api.Fix {
	slope := make([]api.Fix, len(y))
	for i := range slope {
		if h.lack(u, y[i], t[i]) > 0 {
			slope[i] = u.Take(fix.Neg(t[i]))
		}
	}
	return slope
}

// lack is above 0 where an output is not yet far enough on the side of its target.
func (hinge) lack(u *fix.Unit, y, t api.Fix) api.Fix {
	return u.Sub(api.One, u.Mul(t, y))
}
