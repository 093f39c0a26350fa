package data_test

import (
	"slices"
	"testing"

	"regatta/api"
	"regatta/data"
)

// sharing is how many workers share how many examples.
type sharing struct {
	workers, n int
}

// sharings have both ends of both numbers, counts that the workers divide and counts that they don't, and those just beside.
func sharings() []sharing {
	var list []sharing
	for _, workers := range []int{1, 2, 3, 5, 7, 16, 63, api.MaxWorkers} {
		for _, n := range []int{workers, workers + 1, 2*workers - 1, 2 * workers, 2*workers + 1, 10 * workers, 1000, api.MaxExamples - 1, api.MaxExamples} {
			list = append(list, sharing{workers, n})
		}
	}
	return list
}

// P6.1, P6.3: reckoned outside of the program.
func TestSharesByHand(t *testing.T) {
	for _, c := range []struct {
		seed   uint64
		n      int
		shares [][]int
	}{
		{0, 10, [][]int{{4, 3, 9}, {5, 8, 7}, {2, 1, 6, 0}}},
		{5, 10, [][]int{{4, 5, 3}, {2, 7, 8}, {0, 1, 6, 9}}},
		{ones, 10, [][]int{{7, 6, 5}, {9, 2, 3}, {0, 1, 8, 4}}},
		{ones, 8, [][]int{{7, 6}, {5, 4}, {2, 3}, {0, 1}}},
		{1, 7, [][]int{{4}, {0}, {6, 3}, {5}, {1, 2}}},
	} {
		for w, want := range c.shares {
			got, e := data.Own(c.seed, len(c.shares), w, c.n)
			if e != api.OK || !slices.Equal(got, want) {
				t.Errorf("Own(%d, %d, %d, %d) = %v, %d, want %v", c.seed, len(c.shares), w, c.n, got, e, want)
			}
			for _, i := range want {
				if o, e := data.Owner(c.seed, len(c.shares), c.n, i); e != api.OK || o != w {
					t.Errorf("Owner(%d, %d, %d, %d) = %d, %d, want %d", c.seed, len(c.shares), c.n, i, o, e, w)
				}
			}
		}
	}
}

// P6.1: of many examples the first three and the last two, reckoned outside of the program.
func TestOwnOfManyByHand(t *testing.T) {
	for _, c := range []struct {
		seed                   uint64
		workers, worker, count int
		first                  [3]int
		last                   [2]int
	}{
		{5, 64, 0, 64, [3]int{2272, 1547, 3510}, [2]int{2893, 873}},
		{5, 64, 63, 64, [3]int{3437, 3628, 3988}, [2]int{2123, 612}},
		{ones, 63, 31, 65, [3]int{548, 2283, 2171}, [2]int{2272, 3182}},
		{0, 1, 0, 4096, [3]int{1847, 2666, 2243}, [2]int{3208, 3616}},
	} {
		got, e := data.Own(c.seed, c.workers, c.worker, api.MaxExamples)
		if e != api.OK || len(got) != c.count {
			t.Errorf("Own(%d, %d, %d) has %d numbers, %d, want %d", c.seed, c.workers, c.worker, len(got), e, c.count)
			continue
		}
		if [3]int(got[:3]) != c.first || [2]int(got[len(got)-2:]) != c.last {
			t.Errorf("Own(%d, %d, %d) = %v, want %v .. %v", c.seed, c.workers, c.worker, got, c.first, c.last)
		}
	}
}

// checkShares: the workers have what the rule says, in its order, and each example knows its worker.
func checkShares(t *testing.T, seed uint64, workers, n int, want [][]int) {
	t.Helper()
	times := make([]int, n)
	fewest, greatest := n, 0
	for w := range workers {
		own, e := data.Own(seed, workers, w, n)
		if e != api.OK || !slices.Equal(own, want[w]) {
			t.Fatalf("Own(%d, %d, %d, %d) = %v, %d, want %v", seed, workers, w, n, own, e, want[w])
		}
		fewest, greatest = min(fewest, len(own)), max(greatest, len(own))
		for _, i := range own {
			times[i]++
			if o, e := data.Owner(seed, workers, n, i); e != api.OK || o != w {
				t.Fatalf("Owner(%d, %d, %d, %d) = %d, %d, want %d", seed, workers, n, i, o, e, w)
			}
		}
	}
	if fewest < 1 || greatest-fewest > 1 {
		t.Fatalf("%d workers, %d examples: from %d to %d each", workers, n, fewest, greatest)
	}
	if n%workers == 0 && fewest != greatest {
		t.Fatalf("%d workers divide %d examples: from %d to %d each", workers, n, fewest, greatest)
	}
	if slices.Min(times) != 1 || slices.Max(times) != 1 {
		t.Fatalf("%d workers, %d examples: not each just one worker's", workers, n)
	}
}

// P6.1, P6.3, P6.4
func TestShares(t *testing.T) {
	for _, s := range sharings() {
		for _, seed := range []uint64{0, ones} {
			checkShares(t, seed, s.workers, s.n, sharesOf(t, seed, s.workers, s.n))
		}
	}
}

// P6.1, P6.3, P6.4: all numbers of workers and all small counts of examples, by all seeds.
func TestSharesOfFew(t *testing.T) {
	for _, seed := range seeds() {
		for workers := 1; workers <= 12; workers++ {
			for n := workers; n <= 30; n++ {
				checkShares(t, seed, workers, n, sharesOf(t, seed, workers, n))
			}
		}
	}
	for workers := 1; workers <= api.MaxWorkers; workers++ {
		checkShares(t, 3, workers, 100, sharesOf(t, 3, workers, 100))
	}
}

// P6.1: the chapter's example.
func TestOwnOfOneWorker(t *testing.T) {
	for _, seed := range seeds() {
		for _, n := range []int{1, 4, 5, api.MaxExamples} {
			own, e := data.Own(seed, 1, 0, n)
			slices.Sort(own)
			if e != api.OK || !slices.Equal(own, rising(n)) {
				t.Errorf("Own(%d, 1, 0, %d): not all numbers, %d", seed, n, e)
			}
		}
	}
}

// P6.1: seeds share in ways of their own, and one of them always in one.
func TestSharesHangOnTheSeed(t *testing.T) {
	var met [][]int
	for _, seed := range seeds() {
		own, _ := data.Own(seed, 2, 0, 200)
		again, _ := data.Own(seed, 2, 0, 200)
		if !slices.Equal(own, again) {
			t.Errorf("the seed %d shares in two ways", seed)
		}
		for _, other := range met {
			if slices.Equal(own, other) {
				t.Errorf("the seed %d shares as another", seed)
			}
		}
		met = append(met, own)
	}
}

// wrongSharings can't be, whoever asks.
func wrongSharings() []sharing {
	var list []sharing
	for _, workers := range []int{0, -1, -2, least, least + 1, api.MaxWorkers + 1, 2 * api.MaxWorkers, most} {
		for _, n := range []int{least, -1, 0, 1, 64, 65, 100, api.MaxExamples, workers} {
			list = append(list, sharing{workers, n})
		}
	}
	for _, workers := range []int{1, 2, 63, api.MaxWorkers} {
		for _, n := range []int{workers - 1, 0, -1, -workers, least, api.MaxExamples + 1, 2 * api.MaxExamples, most} {
			list = append(list, sharing{workers, n})
		}
	}
	return list
}

func checkNotOwned(t *testing.T, seed uint64, workers, worker, n int) {
	t.Helper()
	if got, e := data.Own(seed, workers, worker, n); e != api.ErrArg || len(got) != 0 {
		t.Errorf("Own(%d, %d, %d, %d) = %d numbers, %d", seed, workers, worker, n, len(got), e)
	}
}

func checkNoOwner(t *testing.T, seed uint64, workers, n, i int) {
	t.Helper()
	if got, e := data.Owner(seed, workers, n, i); e != api.ErrArg || got != 0 {
		t.Errorf("Owner(%d, %d, %d, %d) = %d, %d", seed, workers, n, i, got, e)
	}
}

// P6.1, P6.3
func TestSharesAreRefused(t *testing.T) {
	for _, seed := range []uint64{0, ones} {
		for _, s := range wrongSharings() {
			for _, x := range []int{least, -1, 0, 1, 63, most} {
				checkNotOwned(t, seed, s.workers, x, s.n)
				checkNoOwner(t, seed, s.workers, s.n, x)
			}
		}
		for _, s := range sharings() {
			for _, worker := range []int{least, -1, s.workers, s.workers + 1, most} {
				checkNotOwned(t, seed, s.workers, worker, s.n)
			}
			for _, i := range []int{least, -1, s.n, s.n + 1, most} {
				checkNoOwner(t, seed, s.workers, s.n, i)
			}
		}
	}
}

// DOC.md's rule 4, of P6.1: what is handed out is new memory, spare room too.
func TestOwnIsNewMemory(t *testing.T) {
	first, _ := data.Own(5, 3, 1, 100)
	want := slices.Clone(first)
	other, _ := data.Own(5, 3, 1, 100)
	spoil(first)
	if !slices.Equal(other, want) {
		t.Errorf("another answer was changed: %v, want %v", other, want)
	}
	if again, e := data.Own(5, 3, 1, 100); e != api.OK || !slices.Equal(again, want) {
		t.Errorf("asked again: %v, %d, want %v", again, e, want)
	}
}
