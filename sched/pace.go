package sched

import (
	"regatta/api"
)

// CheckPace says whether a pace is right.
func CheckPace(p api.Pace) api.Errno {
	if p.Least < 1 || !within(p.First, p.Least, p.Most) || p.Most > api.MaxInner || !within(p.Grow, 0, api.MaxInner) {
		return api.ErrRule
	}
	return api.OK
}

// Next is the next number of inner steps.
func Next(p api.Pace, h, missing int) (int, api.Errno) {
	if e := CheckPace(p); e != api.OK {
		return 0, e
	}
	if !within(h, p.Least, p.Most) || missing < 0 {
		return 0, api.ErrArg
	}
	return next(p, h, missing), api.OK
}

// Steps is the inner steps of the round behind entries.
func Steps(p api.Pace, earlier []api.Entry) (int, api.Errno) {
	if e := CheckPace(p); e != api.OK {
		return 0, e
	}
	if len(earlier) > api.MaxRounds {
		return 0, api.ErrBig
	}
	h := p.First
	goOn := func(entry api.Entry) bool {
		if len(entry.Who) > entry.Members {
			return false
		}
		h = next(p, h, entry.Members-len(entry.Who))
		return true
	}
	for _, entry := range earlier {
		if !goOn(entry) {
			return 0, api.ErrArg
		}
	}
	return h, api.OK
}

// next is of a right pace and a right h: their sum is far from the end of the numbers.
func next(p api.Pace, h, missing int) int {
	if missing == 0 {
		return min(h+p.Grow, p.Most)
	}
	return max(h/2, p.Least)
}
