package data_test

import (
	"slices"
	"testing"

	"regatta/api"
	"regatta/data"
)

// asked are the arguments of Batch.
type asked struct {
	seed                      uint64
	worker, round, step, size int
	own                       []int
}

func (a asked) batch() ([]int, api.Errno) {
	return data.Batch(a.seed, a.worker, a.round, a.step, a.size, a.own)
}

// named is what a test says of it: a long list only by its length.
func (a asked) named() []any {
	return []any{a.seed, a.worker, a.round, a.step, a.size, len(a.own)}
}

func checkBatch(t *testing.T, a asked, want []int) {
	t.Helper()
	if got, e := a.batch(); e != api.OK || !slices.Equal(got, want) {
		t.Fatalf("Batch%v = %v, %d, want %v", a.named(), got, e, want)
	}
}

// P6.2: reckoned outside of the program; steps within a pass, over into the next one, and over several.
func TestBatchByHand(t *testing.T) {
	five := []int{10, 11, 12, 13, 14}
	for _, c := range []struct {
		a    asked
		want []int
	}{
		{asked{0, 0, 0, 0, 5, five}, []int{13, 11, 10, 12, 14}},
		{asked{0, 0, 0, 1, 5, five}, []int{11, 13, 12, 14, 10}},
		{asked{0, 0, 0, 0, 12, five}, []int{13, 11, 10, 12, 14, 11, 13, 12, 14, 10, 13, 14}},
		{asked{0, 0, 0, 1, 12, five}, []int{10, 12, 11, 11, 10, 14, 12, 13, 10, 11, 12, 13}},
		{asked{0, 0, 1, 0, 5, five}, []int{11, 13, 12, 10, 14}},
		{asked{0, 1, 0, 0, 5, five}, []int{13, 11, 14, 12, 10}},
		{asked{1, 0, 0, 0, 5, five}, []int{10, 14, 13, 11, 12}},
		{asked{ones, 63, 256, 63, 7, five}, []int{13, 10, 11, 12, 12, 13, 10}},
		{asked{ones, 63, 256, 0, 7, five}, []int{14, 11, 13, 12, 10, 14, 10}},
		{asked{7, 2, 3, 1, 3, five}, []int{11, 12, 12}},
		{asked{7, 3, 2, 1, 3, five}, []int{13, 12, 10}},
		{asked{5, 0, 0, 0, 4, rising(api.MaxExamples)}, []int{3410, 2236, 3046, 2305}},
	} {
		checkBatch(t, c.a, c.want)
	}
}

// P6.2: everything at its upper end, of many numbers the first three and the last three, reckoned outside of the program.
func TestBatchAtItsEndsByHand(t *testing.T) {
	got, e := data.Batch(5, api.MaxWorkers-1, api.MaxRounds, api.MaxInner-1, api.MaxBatch, rising(api.MaxExamples))
	if e != api.OK || len(got) != api.MaxBatch {
		t.Fatalf("%v, %d", got, e)
	}
	if [3]int(got[:3]) != [3]int{1322, 1680, 1449} || [3]int(got[61:]) != [3]int{2560, 1363, 3086} {
		t.Errorf("%v", got)
	}
}

// P6.2: the chapter's example, with every count of another pass.
func TestBatchOfOneNumber(t *testing.T) {
	for _, seed := range seeds() {
		checkBatch(t, asked{seed, 0, 0, 0, 3, []int{7}}, []int{7, 7, 7})
		for _, number := range []int{0, -1, most, least} {
			a := asked{seed, 63, 256, 63, api.MaxBatch, []int{number}}
			checkBatch(t, a, slices.Repeat([]int{number}, api.MaxBatch))
		}
	}
}

// owns are of one number, of few, of as many as a batch and of those beside, of the limit; of numbers far off, and of a number that comes twice.
func owns() [][]int {
	list := [][]int{{most, least, -1, 0}, {5, 5, 8}, {4096, 3, 2, 9, 7}}
	for _, n := range []int{1, 2, 3, 63, 64, 65, 1000, api.MaxExamples - 1, api.MaxExamples} {
		list = append(list, rising(n))
	}
	return list
}

// P6.2: all ends of all numbers.
func TestBatch(t *testing.T) {
	for _, own := range owns() {
		for _, seed := range []uint64{0, ones} {
			for _, worker := range []int{0, 1, api.MaxWorkers - 1} {
				for _, round := range []int{0, 1, api.MaxRounds} {
					for _, step := range []int{0, 1, api.MaxInner - 1} {
						for _, size := range []int{1, 2, api.MaxBatch} {
							a := asked{seed, worker, round, step, size, own}
							checkBatch(t, a, batchOf(t, seed, worker, round, step, size, own))
						}
					}
				}
			}
		}
	}
}

// roundOf is all that the steps of a round look at, one behind the other.
func roundOf(t *testing.T, seed uint64, worker, round, size int, own []int) []int {
	t.Helper()
	var list []int
	for step := range api.MaxInner {
		a := asked{seed, worker, round, step, size, own}
		batch, e := a.batch()
		if e != api.OK || len(batch) != size {
			t.Fatalf("Batch%v = %v, %d", a.named(), batch, e)
		}
		list = append(list, batch...)
	}
	return list
}

// P6.4: in each pass each example comes once, however the steps cut it; in one that breaks off, none twice.
func TestPasses(t *testing.T) {
	for _, n := range []int{1, 2, 3, 5, 7, 16, 17, 63, 64, 65, 200, 1000, api.MaxExamples} {
		own, _ := data.Own(9, 1, 0, n)
		for _, size := range []int{1, 2, 3, 7, 32, 63, api.MaxBatch} {
			left := roundOf(t, 9, n%api.MaxWorkers, size, size, own)
			for pass := range slices.Chunk(left, n) {
				slices.Sort(pass)
				if len(pass) == n && !slices.Equal(pass, rising(n)) {
					t.Fatalf("%d examples, %d a step: not each once in a pass: %v", n, size, pass)
				}
				if len(slices.Compact(slices.Clone(pass))) != len(pass) {
					t.Fatalf("%d examples, %d a step: one twice in a pass: %v", n, size, pass)
				}
			}
		}
	}
}

// P6.2: how the steps cut a round into batches doesn't change what comes in which place.
func TestSizesCutOneRow(t *testing.T) {
	own := rising(37)
	want := roundOf(t, 3, 2, 1, api.MaxBatch, own)
	for size := 1; size <= api.MaxBatch; size++ {
		if got := roundOf(t, 3, 2, 1, size, own); !slices.Equal(got, want[:len(got)]) {
			t.Fatalf("batches of %d go another way", size)
		}
	}
}

// P6.2: seeds, workers, rounds and passes have orders of their own, and each always the same one.
func TestPassesHangOnTheirKey(t *testing.T) {
	own := rising(64)
	first := asked{1, 1, 1, 0, 64, own}
	want, _ := first.batch()
	again, _ := first.batch()
	if !slices.Equal(want, again) {
		t.Error("one key, two orders")
	}
	for _, a := range []asked{{0, 1, 1, 0, 64, own}, {1, 0, 1, 0, 64, own}, {1, 1, 0, 0, 64, own}, {1, 1, 0, 1, 64, own}, {1, 1, 1, 1, 64, own}, {1, 1, 2, 0, 64, own}} {
		if got, _ := a.batch(); slices.Equal(got, want) {
			t.Errorf("Batch%v has the order of another pass", a.named())
		}
	}
	if shares, _ := data.Own(1, 1, 0, 64); slices.Equal(shares, want) {
		t.Error("a pass has the order of the shares")
	}
}

// P6.2
func TestBatchIsRefused(t *testing.T) {
	one := []int{7}
	for _, right := range []asked{{0, 0, 0, 0, 1, one}, {ones, api.MaxWorkers - 1, api.MaxRounds, api.MaxInner - 1, api.MaxBatch, rising(api.MaxExamples)}} {
		if _, e := right.batch(); e != api.OK {
			t.Fatalf("Batch%v: %d", right.named(), e)
		}
		var wrong []asked
		add := func(set func(a *asked, x int), numbers ...int) {
			for _, x := range numbers {
				a := right
				set(&a, x)
				wrong = append(wrong, a)
			}
		}
		add(func(a *asked, x int) { a.worker = x }, least, -2, -1, api.MaxWorkers, api.MaxWorkers+1, most)
		add(func(a *asked, x int) { a.round = x }, least, -2, -1, api.MaxRounds+1, api.MaxRounds+2, most)
		add(func(a *asked, x int) { a.step = x }, least, -2, -1, api.MaxInner, api.MaxInner+1, most)
		add(func(a *asked, x int) { a.size = x }, least, -1, 0, api.MaxBatch+1, api.MaxBatch+2, most)
		add(func(a *asked, x int) { a.own = rising(x) }, 0, api.MaxExamples+1, 2*api.MaxExamples)
		add(func(a *asked, x int) { a.own = nil }, 0)
		add(func(a *asked, x int) { a.own = roomy(1, 2, 3)[:x] }, 0)
		add(func(a *asked, x int) { *a = asked{a.seed, x, x, x, x, nil} }, least, -1, most)
		for _, a := range wrong {
			if got, e := a.batch(); e != api.ErrArg || len(got) != 0 {
				t.Errorf("Batch%v = %v, %d", a.named(), got, e)
			}
		}
	}
}

// DOC.md's rules 4 and 8, of P6.2: own stays as it is, its room too, and the answer is memory of its own.
func TestBatchLeavesOwnAlone(t *testing.T) {
	for _, size := range []int{1, 3, 4, api.MaxBatch, 0} {
		own := roomy(4, 5, 6)
		was := slices.Clone(whole(own))
		a := asked{1, 2, 3, 4, size, own}
		first, _ := a.batch()
		if !slices.Equal(whole(own), was) {
			t.Errorf("Batch%v changed own: %v, was %v", a.named(), whole(own), was)
		}
		want := slices.Clone(first)
		other, _ := a.batch()
		spoil(first)
		if !slices.Equal(whole(own), was) || !slices.Equal(other, want) {
			t.Errorf("Batch%v: its answer shares memory", a.named())
		}
		spoil(own)
		if !slices.Equal(other, want) {
			t.Errorf("Batch%v: its answer shares memory with own", a.named())
		}
	}
}

// DOC.md's rule 5, of P6.2: the numbers are those of own at that time; nothing of an earlier own is kept.
func TestBatchKeepsNothing(t *testing.T) {
	own := []int{4, 5, 6}
	before, _ := data.Batch(1, 0, 0, 0, 3, own)
	for i := range own {
		own[i] += 10
	}
	after, e := data.Batch(1, 0, 0, 0, 3, own)
	for i := range before {
		before[i] += 10
	}
	if e != api.OK || !slices.Equal(after, before) {
		t.Errorf("%v, %d, want %v", after, e, before)
	}
}
