package sched_test

import (
	"testing"

	"regatta/api"
	"regatta/sched"
)

// P8.2: reckoned outside of the program; the first is the chapter's example.
func TestPowerByHand(t *testing.T) {
	for _, c := range []struct {
		beta api.Fix
		t    int
		want api.Fix
	}{
		{half, 3, api.One / 8},
		{half, 32, 1},
		{half, 33, 0},
		{half, 34, 0},
		{0, 0, api.One},
		{0, 1, 0},
		{0, api.MaxSteps, 0},
		{1, 0, api.One},
		{1, 1, 1},
		{1, 2, 0},
		{api.One - 1, 0, api.One},
		{api.One - 1, 1, 4294967295},
		{api.One - 1, 2, 4294967294},
		{api.One - 1, api.MaxSteps, 4293918720},
		{api.One - 4096, api.MaxSteps, 1580029448},
		{3865470566, 1, 3865470566}, // 0.9
		{3865470566, 2, 3478923509},
		{3865470566, 3, 3131031158},
		{3865470566, 10, 1497562496},
		{3865470566, 100, 114079},
		{3865470566, 200, 4}, // and there they stay: each product is rounded
		{3865470566, 300, 4},
		{3865470566, api.MaxSteps, 4},
		{4290672329, 1, 4290672329}, // 0.999
		{4290672329, 2, 4286381657},
		{4290672329, 1000, 1579239925},
		{4290672329, 10000, 194019},
		{4290672329, 20000, 500},
		{4290672329, api.MaxSteps, 500},
		{third, 2, 477218588},
		{third, 3, 159072863},
		{3 * api.One / 4, 2, 2415919104},
		{3 * api.One / 4, 60, 137},
		{3 * api.One / 4, api.MaxSteps, 2},
		{half + 1, 31, 3},
		{half + 1, 32, 2},
		{half + 1, 33, 1},
		{half + 1, api.MaxSteps, 1},
	} {
		checkPower(t, c.beta, c.t, c.want)
	}
}

// P8.2 and P8.5: step by step, and none is above the one ahead.
func TestPowers(t *testing.T) {
	mix := mixed(2)
	betas := []api.Fix{0, 1, 2, third, half - 1, half, half + 1, 3 * api.One / 4, 3865470566, 4290672329, api.One - 2, api.One - 1}
	for range 200 {
		betas = append(betas, anyFix(mix, api.One-1), api.One-1-anyFix(mix, api.One-1))
	}
	for _, beta := range betas {
		before := api.One
		for step, want := range powersOf(beta, 120) {
			checkPower(t, beta, step, want)
			if got, _ := sched.Power(beta, step); got > before || got < 0 {
				t.Fatalf("Power(%d, %d) = %d, and %d ahead of it", beta, step, got, before)
			}
			before = want
		}
	}
}

// P8.2 and P8.5: far off, up to where the steps end.
func TestFarPowers(t *testing.T) {
	for _, beta := range []api.Fix{half, api.One - 1, api.One - 1000, api.One - 1<<20} {
		powers := powersOf(beta, api.MaxSteps)
		before := api.One
		for _, step := range []int{1000, 4095, 65536, 500000, api.MaxSteps - 1, api.MaxSteps} {
			checkPower(t, beta, step, powers[step])
			if powers[step] > before {
				t.Fatalf("Power(%d, %d) = %d, and %d ahead of it", beta, step, powers[step], before)
			}
			before = powers[step]
		}
	}
}

func checkPowerRefused(t *testing.T, beta api.Fix, step int, want api.Errno) {
	t.Helper()
	if got, e := sched.Power(beta, step); got != 0 || e != want {
		t.Errorf("Power(%d, %d) = %d, %d, want %d", beta, step, got, e, want)
	}
	if got, e := sched.Bias(beta, step); got != 0 || e != want {
		t.Errorf("Bias(%d, %d) = %d, %d, want %d", beta, step, got, e, want)
	}
}

// P8.2: a wrong beta is told ahead of a wrong t.
func TestPowersAreRefused(t *testing.T) {
	for _, beta := range []api.Fix{api.MinFix, -api.One, -1, api.One, api.One + 1, api.MaxFix} {
		for _, step := range []int{least, -1, 0, 1, api.MaxSteps, api.MaxSteps + 1, most} {
			checkPowerRefused(t, beta, step, api.ErrRule)
		}
	}
	for _, beta := range []api.Fix{0, 1, half, api.One - 1} {
		for _, step := range []int{least, -2, -1, api.MaxSteps + 1, api.MaxSteps + 2, most} {
			checkPowerRefused(t, beta, step, api.ErrArg)
		}
	}
}
