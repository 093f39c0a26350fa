package adamw

import (
	"regatta/api"
	"regatta/fix"
	"regatta/sched"
	"regatta/wide"
)

// places is how many bits of a number lie behind its point; of a product twice as many do.
const places = 32

// step is what the t-th step needs of the settings. It is the same for all parameters, and a far power takes long: it is reckoned once.
type step struct {
	api.Inner
	t            int
	rate         api.Fix
	bias1, bias2 api.Fix
}

// place is where a parameter is, and both of its means.
type place struct {
	m, v, p api.Fix
}

// stepOf is of a right inner and of a step that there is: so none of these calls has an error.
func stepOf(x api.Inner, t int) step {
	rate, _ := sched.Rate(x.Rate, t)
	bias1, _ := sched.Bias(x.Beta1, t)
	bias2, _ := sched.Bias(x.Beta2, t)
	return step{Inner: x, t: t, rate: rate, bias1: bias1, bias2: bias2}
}

// move is where a parameter comes to by its part of the gradient.
func (s step) move(u *fix.Unit, from place, g api.Fix) place {
	m := mixed(u, s.Beta1, from.m, g)
	v := mixed(u, s.Beta2, from.v, u.Mul(g, g))
	a := u.Div(m, s.bias1)
	b := u.Sqrt(u.Div(v, s.bias2))
	w := u.Add(u.Div(a, u.Add(b, s.Eps)), u.Mul(s.Decay, from.p))
	return place{m: m, v: v, p: u.Sub(from.p, u.Mul(s.rate, w))}
}

// mixed is beta of a mean and the rest of what is new, exact until its end: both products together have at most 96 bits.
func mixed(u *fix.Unit, beta, mean, news api.Fix) api.Fix {
	old := wide.Mul(int64(beta), int64(mean))
	rest := wide.Mul(int64(api.One-beta), int64(news))
	return u.Near(wide.Extend(wide.Add(old, rest)), places)
}
