package fix

import (
	"regatta/api"
	"regatta/wide"
)

// Unit counts the results that were held. A nil one reckons likewise, and counts nothing.
type Unit struct {
	tally
}

// tally is a count, apart from the unit: only what isn't nil has one.
type tally struct {
	count int
}

func (t *tally) more() {
	t.count++
}

// Take is a result; it is counted, if it was held.
func (u *Unit) Take(a api.Fix, held bool) api.Fix {
	if held && u != nil {
		u.more()
	}
	return a
}

// Add is a sum.
func (u *Unit) Add(a, b api.Fix) api.Fix {
	return taken(u.Take, Add, a, b)
}

// Sub is a difference.
func (u *Unit) Sub(a, b api.Fix) api.Fix {
	return taken(u.Take, Sub, a, b)
}

// Mul is a product.
func (u *Unit) Mul(a, b api.Fix) api.Fix {
	return taken(u.Take, Mul, a, b)
}

// Div is a quotient.
func (u *Unit) Div(a, b api.Fix) api.Fix {
	return taken(u.Take, Div, a, b)
}

// By is a number by a whole one.
func (u *Unit) By(a api.Fix, n int) api.Fix {
	return u.Take(By(a, n))
}

// Sqrt is a root.
func (u *Unit) Sqrt(a api.Fix) api.Fix {
	return u.Take(Sqrt(a))
}

// Near is a long number by 2^n, to the nearest whole one.
func (u *Unit) Near(a api.Long, n int) api.Fix {
	near, held := wide.Near(a, n)
	return u.Take(api.Fix(near), held)
}

// Count is how many results were held.
func (u *Unit) Count() int {
	if u == nil {
		return 0
	}
	return u.count
}

// Clear lets it have counted none.
func (u *Unit) Clear() {
	if u != nil {
		u.tally = tally{}
	}
}

// taken hands both answers of a function to a unit's Take, which comes with its unit, be it nil.
func taken(take func(api.Fix, bool) api.Fix, of func(a, b api.Fix) (api.Fix, bool), a, b api.Fix) api.Fix {
	return take(of(a, b))
}
