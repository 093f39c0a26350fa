package sched_test

import (
	"slices"
	"testing"

	"regatta/api"
	"regatta/sched"
)

// paces are right, at all edges together.
func paces() []api.Pace {
	var list []api.Pace
	ends := []int{1, 2, 3, 7, 8, 31, 32, 33, api.MaxInner - 1, api.MaxInner}
	for _, low := range ends {
		for _, high := range ends {
			for _, first := range []int{low, low + 1, (low + high) / 2, high - 1, high} {
				for _, grow := range []int{0, 1, 2, 5, api.MaxInner - 1, api.MaxInner} {
					if first >= low && first <= high {
						list = append(list, api.Pace{Least: low, First: first, Most: high, Grow: grow})
					}
				}
			}
		}
	}
	return list
}

// entry is of a round with so many members, of whom so many were missing.
func entry(members, missing int) api.Entry {
	e := api.Entry{Members: members}
	for i := range members - missing {
		e.Who = append(e.Who, i+1)
	}
	return e
}

// P8.3 and P8.4: the chapter's example.
func TestPaceOfTheExample(t *testing.T) {
	p := api.Pace{Least: 2, First: 4, Most: 8, Grow: 1}
	var earlier []api.Entry
	h := 4
	for _, c := range []struct{ missing, want int }{{0, 5}, {0, 6}, {1, 3}, {1, 2}, {1, 2}, {0, 3}, {2, 2}} {
		checkSteps(t, p, earlier, h)
		checkNext(t, p, h, c.missing, c.want)
		earlier = append(earlier, entry(3, c.missing))
		h = c.want
	}
	checkSteps(t, p, earlier, h)
}

// P8.3: at and beside both ends of h, and whoever is missing.
func TestNext(t *testing.T) {
	for _, p := range paces() {
		if e := sched.CheckPace(p); e != api.OK {
			t.Fatalf("CheckPace(%v) = %d", p, e)
		}
		for h := p.Least; h <= p.Most; h++ {
			for _, missing := range []int{0, 1, 2, api.MaxWorkers, most} {
				got, _ := sched.Next(p, h, missing)
				checkNext(t, p, h, missing, nextOf(p, h, missing))
				if got < p.Least || got > p.Most {
					t.Fatalf("Next(%v, %d, %d) = %d", p, h, missing, got)
				}
			}
		}
	}
}

// P8.3: reckoned by hand.
func TestNextByHand(t *testing.T) {
	for _, c := range []struct {
		p                api.Pace
		h, missing, want int
	}{
		{api.Pace{Least: 1, First: 1, Most: 1}, 1, 0, 1},
		{api.Pace{Least: 1, First: 1, Most: 1}, 1, 1, 1},
		{api.Pace{Least: 1, First: 1, Most: 1, Grow: 64}, 1, 0, 1},
		{api.Pace{Least: 1, First: 1, Most: 64, Grow: 64}, 1, 0, 64},
		{api.Pace{Least: 1, First: 1, Most: 64, Grow: 62}, 1, 0, 63},
		{api.Pace{Least: 1, First: 1, Most: 64, Grow: 64}, 64, 0, 64},
		{api.Pace{Least: 1, First: 1, Most: 64}, 64, 0, 64},
		{api.Pace{Least: 1, First: 1, Most: 64}, 7, 0, 7},
		{api.Pace{Least: 1, First: 1, Most: 64}, 64, most, 32},
		{api.Pace{Least: 1, First: 1, Most: 64}, 63, 1, 31},
		{api.Pace{Least: 1, First: 1, Most: 64}, 3, 1, 1},
		{api.Pace{Least: 1, First: 1, Most: 64}, 1, 1, 1},
		{api.Pace{Least: 20, First: 64, Most: 64, Grow: 1}, 39, 1, 20},
		{api.Pace{Least: 20, First: 64, Most: 64, Grow: 1}, 41, 1, 20},
		{api.Pace{Least: 20, First: 64, Most: 64, Grow: 1}, 42, 1, 21},
		{api.Pace{Least: 20, First: 64, Most: 64, Grow: 1}, 64, 2, 32},
		{api.Pace{Least: 64, First: 64, Most: 64, Grow: 1}, 64, 2, 64},
	} {
		checkNext(t, c.p, c.h, c.missing, c.want)
	}
}

// P8.4: of no entry, of one, of as many as may be.
func TestStepsByHand(t *testing.T) {
	p := api.Pace{Least: 3, First: 10, Most: 60, Grow: 4}
	checkSteps(t, p, nil, 10)
	checkSteps(t, p, []api.Entry{}, 10)
	checkSteps(t, p, []api.Entry{{}}, 14)
	checkSteps(t, p, []api.Entry{entry(1, 0)}, 14)
	checkSteps(t, p, []api.Entry{entry(1, 1)}, 5)
	checkSteps(t, p, []api.Entry{entry(64, 63)}, 5)
	checkSteps(t, p, []api.Entry{{Members: most}}, 5)
	checkSteps(t, p, []api.Entry{{Members: most, Who: []int{1}}, entry(2, 0)}, 9)
	checkSteps(t, p, slices.Repeat([]api.Entry{entry(2, 0)}, api.MaxRounds), 60)
	checkSteps(t, p, slices.Repeat([]api.Entry{entry(2, 1)}, api.MaxRounds), 3)
	checkSteps(t, p, append(slices.Repeat([]api.Entry{entry(2, 1)}, api.MaxRounds-1), entry(2, 0)), 7)
	grow := api.Pace{Least: 1, First: 1, Most: 64, Grow: 1}
	checkSteps(t, grow, slices.Repeat([]api.Entry{entry(2, 0)}, 62), 63)
	checkSteps(t, grow, slices.Repeat([]api.Entry{entry(2, 0)}, 63), 64)
	checkSteps(t, grow, slices.Repeat([]api.Entry{entry(2, 0)}, 64), 64)
}

// P8.4 and P8.5: entry by entry the next number, from Least to Most.
func TestSteps(t *testing.T) {
	mix := mixed(3)
	for _, p := range paces() {
		seldom := 1 + mix.IntN(9)
		var earlier []api.Entry
		h := p.First
		for range 40 {
			checkSteps(t, p, earlier, h)
			if h < p.Least || h > p.Most {
				t.Fatalf("Steps(%v, %v) = %d", p, earlier, h)
			}
			members, missing := mix.IntN(6), 0
			if members > 0 && mix.IntN(seldom) == 0 {
				missing = 1 + mix.IntN(members)
			}
			earlier = append(earlier, entry(members, missing))
			h = nextOf(p, h, missing)
		}
	}
}

// P8.4: nothing of an entry but Members and how many Who has counts.
func TestStepsLookAtNothingElse(t *testing.T) {
	p := api.Pace{Least: 1, First: 8, Most: 64, Grow: 3}
	for _, e := range []api.Entry{
		{Members: 2, Who: []int{1, 2}},
		{Members: 2, Who: []int{2, 1}},
		{Members: 2, Who: []int{5, 5}},
		{Members: 2, Who: []int{least, most}},
		{Members: 2, Who: []int{0, -1}, Round: -1, H: -1, Sat: -1},
		{Members: 2, Who: []int{0, -1}, Round: most, H: least, Sat: most},
		{Members: 2, Who: make([]int, 2, 9)},
	} {
		checkSteps(t, p, []api.Entry{e, e}, 14)
		e.Members = 3
		checkSteps(t, p, []api.Entry{e, e}, 2)
	}
}

// wrongPaces are of each field by itself beyond each of its ends, and of several at once.
func wrongPaces() []api.Pace {
	return []api.Pace{
		{},
		{Least: 0, First: 1, Most: 8, Grow: 1},
		{Least: 0, First: 0, Most: 8, Grow: 1},
		{Least: -1, First: 4, Most: 8, Grow: 1},
		{Least: least, First: 4, Most: 8, Grow: 1},
		{Least: 5, First: 4, Most: 8, Grow: 1},
		{Least: most, First: 4, Most: 8, Grow: 1},
		{Least: 2, First: 1, Most: 8, Grow: 1},
		{Least: 2, First: 0, Most: 8, Grow: 1},
		{Least: 2, First: least, Most: 8, Grow: 1},
		{Least: 2, First: 9, Most: 8, Grow: 1},
		{Least: 2, First: most, Most: 8, Grow: 1},
		{Least: 2, First: 4, Most: 3, Grow: 1},
		{Least: 2, First: 4, Most: 1, Grow: 1},
		{Least: 2, First: 4, Most: 0, Grow: 1},
		{Least: 2, First: 4, Most: least, Grow: 1},
		{Least: 2, First: 4, Most: api.MaxInner + 1, Grow: 1},
		{Least: 2, First: 4, Most: most, Grow: 1},
		{Least: api.MaxInner + 1, First: api.MaxInner + 1, Most: api.MaxInner + 1, Grow: 1},
		{Least: most, First: most, Most: most, Grow: most},
		{Least: 2, First: 4, Most: 8, Grow: -1},
		{Least: 2, First: 4, Most: 8, Grow: least},
		{Least: 2, First: 4, Most: 8, Grow: api.MaxInner + 1},
		{Least: 2, First: 4, Most: 8, Grow: most},
	}
}

// P8.3 and P8.4: a wrong pace is told ahead of all else.
func TestPacesAreRefused(t *testing.T) {
	long := slices.Repeat([]api.Entry{{Members: -1}}, api.MaxRounds+1)
	for _, p := range wrongPaces() {
		if e := sched.CheckPace(p); e != api.ErrRule {
			t.Errorf("CheckPace(%v) = %d", p, e)
		}
		for _, h := range []int{least, -1, 0, 1, 4, 64, 65, most, p.Least, p.Most} {
			for _, missing := range []int{least, -1, 0, 1} {
				if got, e := sched.Next(p, h, missing); got != 0 || e != api.ErrRule {
					t.Errorf("Next(%v, %d, %d) = %d, %d", p, h, missing, got, e)
				}
			}
		}
		for _, earlier := range [][]api.Entry{nil, {entry(2, 0)}, long[:1], long} {
			if got, e := sched.Steps(p, earlier); got != 0 || e != api.ErrRule {
				t.Errorf("Steps(%v, of %d) = %d, %d", p, len(earlier), got, e)
			}
		}
	}
}

// P8.3
func TestNextIsRefused(t *testing.T) {
	p := api.Pace{Least: 2, First: 4, Most: 8, Grow: 1}
	for _, c := range [][2]int{
		{1, 0}, {0, 0}, {-1, 0}, {least, 0}, {9, 0}, {10, 0}, {most, 0},
		{1, 1}, {9, 1}, {1, most}, {9, most},
		{4, -1}, {4, least}, {2, -1}, {8, -1}, {1, -1}, {9, least}, {least, least},
	} {
		if got, e := sched.Next(p, c[0], c[1]); got != 0 || e != api.ErrArg {
			t.Errorf("Next(%v, %d, %d) = %d, %d", p, c[0], c[1], got, e)
		}
	}
}

// P8.4: one entry too many, whatever stands in them.
func TestLongLedgersAreRefused(t *testing.T) {
	p := api.Pace{Least: 2, First: 4, Most: 8, Grow: 1}
	for _, e := range []api.Entry{{}, entry(3, 0), entry(3, 3), {Members: -1}, {Members: 1, Who: []int{1, 2}}} {
		for _, n := range []int{api.MaxRounds + 1, api.MaxRounds + 2, 4 * api.MaxRounds} {
			if got, e := sched.Steps(p, slices.Repeat([]api.Entry{e}, n)); got != 0 || e != api.ErrBig {
				t.Errorf("Steps(%v, of %d) = %d, %d", p, n, got, e)
			}
		}
	}
}

// P8.4: an entry with more in Who than Members says, at the front, in the midst and at the end.
func TestEntriesAreRefused(t *testing.T) {
	p := api.Pace{Least: 2, First: 4, Most: 8, Grow: 1}
	for _, wrong := range []api.Entry{
		{Members: 1, Who: []int{1, 2}},
		{Members: 0, Who: []int{1}},
		{Members: -1},
		{Members: least},
		{Members: least, Who: []int{1}},
		{Members: 63, Who: make([]int, 64)},
	} {
		for _, n := range []int{1, 2, 3, api.MaxRounds} {
			for _, at := range []int{0, n / 2, n - 1} {
				earlier := slices.Repeat([]api.Entry{entry(3, 1)}, n)
				earlier[at] = wrong
				if got, e := sched.Steps(p, earlier); got != 0 || e != api.ErrArg {
					t.Errorf("Steps(%v, of %d, %v at %d) = %d, %d", p, n, wrong, at, got, e)
				}
			}
		}
	}
}

// DOC.md's rules 4, 5 and 8, of P8.4: entries stay as they are, those behind the list's end aren't looked at, and nothing of them is kept.
func TestEntriesAreLeftAlone(t *testing.T) {
	p := api.Pace{Least: 2, First: 4, Most: 8, Grow: 1}
	who := []int{3, 1, 2, 9}
	room := []api.Entry{{Round: 5, H: 6, Members: 3, Who: who[:3], Sat: 7}, entry(3, 0), {Members: -1}}
	checkSteps(t, p, room[:2], 6)
	sched.Steps(p, room)
	sched.Steps(api.Pace{}, room)
	if !slices.Equal(who, []int{3, 1, 2, 9}) || !slices.Equal(room[1].Who, []int{1, 2, 3}) {
		t.Errorf("%v, %v", who, room[1].Who)
	}
	if first := room[0]; first.Round != 5 || first.H != 6 || first.Members != 3 || first.Sat != 7 || len(first.Who) != 3 || room[2].Members != -1 {
		t.Errorf("%v", room)
	}
	room[1].Members = 4
	checkSteps(t, p, room[:2], 2)
}
