package sched_test

import (
	"math"
	"math/big"
	"math/rand/v2"
	"testing"

	"regatta/api"
	"regatta/sched"
)

// The tests hold the package against the chapter's rules in whole numbers without a range, and against numbers that were reckoned outside of the program.

const (
	most  = math.MaxInt
	least = math.MinInt
)

// rounded is n / d, to the nearest whole number, and to the even one of two; n isn't below 0.
func rounded(n, d *big.Int) *big.Int {
	whole, rest := new(big.Int).QuoRem(n, d, new(big.Int))
	twice := rest.Lsh(rest, 1).Cmp(d)
	if twice > 0 || twice == 0 && whole.Bit(0) == 1 {
		whole.Add(whole, big.NewInt(1))
	}
	return whole
}

func product(a *big.Int, b int64) *big.Int {
	return new(big.Int).Mul(a, big.NewInt(b))
}

// rateOf is the rate of a step by the chapter's rule.
func rateOf(r api.Rates, t int) api.Fix {
	rate := big.NewInt(int64(r.Base))
	if t <= r.Warm {
		rate = rounded(product(rate, int64(t)), big.NewInt(int64(r.Warm)))
	}
	for _, d := range r.Drops {
		if t >= d.At {
			rate = rounded(product(rate, int64(d.Factor)), big.NewInt(int64(api.One)))
		}
	}
	return api.Fix(rate.Int64())
}

// powersOf are the powers up to the t-th by the chapter's rule.
func powersOf(beta api.Fix, t int) []api.Fix {
	p := big.NewInt(int64(api.One))
	list := []api.Fix{api.One}
	for range t {
		p = rounded(product(p, int64(beta)), big.NewInt(int64(api.One)))
		list = append(list, api.Fix(p.Int64()))
	}
	return list
}

// nextOf is the next number of inner steps by the chapter's rule.
func nextOf(p api.Pace, h, missing int) int {
	if missing > 0 {
		half := (h - h%2) / 2
		if half < p.Least {
			return p.Least
		}
		return half
	}
	if p.Most-h < p.Grow {
		return p.Most
	}
	return h + p.Grow
}

func mixed(seed uint64) *rand.Rand {
	return rand.New(rand.NewPCG(seed, 8))
}

// anyFix is any number from 0 to most, small ones and great ones as often as each other.
func anyFix(r *rand.Rand, most api.Fix) api.Fix {
	return min(most, api.Fix(r.Uint64()>>1>>r.IntN(63)))
}

func checkRate(t *testing.T, r api.Rates, step int, want api.Fix) {
	t.Helper()
	if got, e := sched.Rate(r, step); got != want || e != api.OK {
		t.Fatalf("Rate(%v, %d) = %d, %d, want %d", r, step, got, e, want)
	}
}

// checkPower is of both: what a power lacks is the bias.
func checkPower(t *testing.T, beta api.Fix, step int, want api.Fix) {
	t.Helper()
	if got, e := sched.Power(beta, step); got != want || e != api.OK {
		t.Fatalf("Power(%d, %d) = %d, %d, want %d", beta, step, got, e, want)
	}
	if got, e := sched.Bias(beta, step); got != api.One-want || e != api.OK {
		t.Fatalf("Bias(%d, %d) = %d, %d, want %d", beta, step, got, e, api.One-want)
	}
}

func checkNext(t *testing.T, p api.Pace, h, missing, want int) {
	t.Helper()
	if got, e := sched.Next(p, h, missing); got != want || e != api.OK {
		t.Fatalf("Next(%v, %d, %d) = %d, %d, want %d", p, h, missing, got, e, want)
	}
}

func checkSteps(t *testing.T, p api.Pace, earlier []api.Entry, want int) {
	t.Helper()
	if got, e := sched.Steps(p, earlier); got != want || e != api.OK {
		t.Fatalf("Steps(%v, %v) = %d, %d, want %d", p, earlier, got, e, want)
	}
}
