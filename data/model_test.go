package data_test

import (
	"math"
	"slices"
	"testing"

	"regatta/api"
	"regatta/rand"
)

// The tests hold the package against the chapter's rules, made of layer 5's Place alone, and against lists that were reckoned outside of the program.

const (
	most  = math.MaxInt
	least = math.MinInt
	ones  = math.MaxUint64
)

// seeds have both ends, and the two numbers beside a half.
func seeds() []uint64 {
	return []uint64{0, 1, 5, 1<<63 - 1, 1 << 63, ones - 1, ones}
}

// rising is 0 to n - 1.
func rising(n int) []int {
	list := make([]int, n)
	for i := range list {
		list[i] = i
	}
	return list
}

func placeOf(t *testing.T, k api.Key, n, i int) int {
	t.Helper()
	p, e := rand.Place(k, n, i)
	if e != api.OK {
		t.Fatalf("Place(%v, %d, %d): %d", k, n, i, e)
	}
	return p
}

// sharesOf is what each worker has by the chapter's rule.
func sharesOf(t *testing.T, seed uint64, workers, n int) [][]int {
	t.Helper()
	at := make([]int, n)
	for i := range n {
		at[placeOf(t, api.Key{Seed: seed, A: 1}, n, i)] = i
	}
	var shares [][]int
	for w := range workers {
		shares = append(shares, at[w*n/workers:(w+1)*n/workers])
	}
	return shares
}

// batchOf is what a step looks at by the chapter's rule.
func batchOf(t *testing.T, seed uint64, worker, round, step, size int, own []int) []int {
	t.Helper()
	var batch []int
	pass, place := 0, 0
	for q := range (step + 1) * size {
		if q >= step*size {
			k := api.Key{Seed: seed, A: 2, B: worker, C: round*65536 + pass}
			batch = append(batch, own[placeOf(t, k, len(own), place)])
		}
		if place++; place == len(own) {
			pass, place = pass+1, 0
		}
	}
	return batch
}

// whole is a list with all its room.
func whole(list []int) []int { return list[:cap(list)] }

// roomy is a list with room behind its numbers in which something stands.
func roomy(numbers ...int) []int {
	return append(slices.Clone(numbers), 77, 88, 99)[:len(numbers)]
}

// spoil writes into a list and into its room.
func spoil(list []int) {
	for i := range whole(list) {
		whole(list)[i] = -5
	}
}
