package vec

import (
	"regatta/api"
	"regatta/fix"
	"regatta/wide"
)

// places is how many bits of a number lie behind its point; of a product twice as many do.
const places = 32

// each hands the parts of a list to of; it is the list of what that answers.
func each[P, Q any](list []P, of func(part P) Q) []Q {
	out := make([]Q, len(list))
	for i, part := range list {
		out[i] = of(part)
	}
	return out
}

// pairs hands the parts of two lists to of, both at one place; it is the list of what that answers. Both are as long.
func pairs[P, Q, R any](a []P, b []Q, of func(x P, y Q) R) []R {
	out := make([]R, len(a))
	for i, x := range a {
		out[i] = of(x, b[i])
	}
	return out
}

// gather hands the parts of a list to with, and what was kept so far; it is what is kept at the end.
func gather[P, K any](list []P, kept K, with func(kept K, part P) K) K {
	for _, part := range list {
		kept = with(kept, part)
	}
	return kept
}

// gatherPairs hands the parts of two lists to with, both at one place, and what was kept so far; it is what is kept at the end. Both are as long.
func gatherPairs[P, Q, K any](a []P, b []Q, kept K, with func(kept K, x P, y Q) K) K {
	for i, x := range a {
		kept = with(kept, x, b[i])
	}
	return kept
}

// paired is what is made of two vectors part by part.
func paired(a, b []api.Fix, of func(x, y api.Fix) api.Fix) ([]api.Fix, api.Errno) {
	if e := check(len(a) == len(b), a, b); e != api.OK {
		return nil, e
	}
	return pairs(a, b, of), api.OK
}

func scaled(u *fix.Unit, k api.Fix, a []api.Fix) []api.Fix {
	return each(a, func(part api.Fix) api.Fix { return u.Mul(k, part) })
}

func dot(u *fix.Unit, a, b []api.Fix) api.Fix {
	return u.Near(products(a, b), places)
}

func norm(u *fix.Unit, a []api.Fix) api.Fix {
	root, held := wide.Root(products(a, a))
	return u.Take(api.Fix(root), held)
}

// products is the sum of the products, exact: MaxDim of them, each of at most 126 bits, are far from the ends of a long number.
func products(a, b []api.Fix) api.Long {
	return gatherPairs(a, b, api.Long{}, func(sum api.Long, x, y api.Fix) api.Long {
		return wide.Plus(sum, wide.Extend(wide.Mul(int64(x), int64(y))))
	})
}

// total is the sum of the parts in steps, exact.
func total(a []api.Fix) api.Wide {
	return gather(a, api.Wide{}, plus)
}

func plus(sum api.Wide, part api.Fix) api.Wide {
	return wide.Add(sum, wide.Of(int64(part)))
}

// mean is a sum of n parts by n; n is above 0, so that there is always a quotient.
func mean(u *fix.Unit, sum api.Wide, n int) api.Fix {
	by, _ := wide.Quo(sum, int64(n))
	return hold(u, by)
}

// hold is a whole number of steps, brought to an end of the range if it is beyond it; then u counts it.
func hold(u *fix.Unit, steps api.Wide) api.Fix {
	held, over := wide.Clamp(steps)
	return u.Take(api.Fix(held), over)
}
