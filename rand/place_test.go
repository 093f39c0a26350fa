package rand_test

import (
	"slices"
	"testing"

	"regatta/api"
	"regatta/rand"
)

// sizes are those at which the halves get a bit more, and those beside them.
func sizes() []int {
	var list []int
	for b := range 9 {
		n := 1 << (2 * b)
		for _, size := range []int{n - 1, n, n + 1} {
			if size >= 1 && size <= api.MaxDim {
				list = append(list, size)
			}
		}
	}
	return list
}

// trips is where a round trip leads to from each number of 2 b bits.
func trips(k api.Key, b int) []int {
	side := 1 << b
	var words [4][]int
	for t := range words {
		for r := range side {
			words[t] = append(words[t], int(rand.Word(k, 1024*t+r)%uint64(side)))
		}
	}
	list := make([]int, side*side)
	for x := range list {
		l, r := x/side, x%side
		for t := range words {
			l, r = r, l^words[t][r]
		}
		list[x] = l*side + r
	}
	return list
}

// placesOf is where the chapter's rule puts each of n numbers.
func placesOf(k api.Key, n int) []int {
	b := 1
	for 1<<(2*b) < n {
		b++
	}
	next := trips(k, b)
	list := make([]int, n)
	for i := range list {
		x := next[i]
		for x >= n {
			x = next[x]
		}
		list[i] = x
	}
	return list
}

// checkPlaces: each number goes to its place, no two to one, and each is found again.
func checkPlaces(t *testing.T, k api.Key, n int, want []int) {
	t.Helper()
	seen := make([]bool, n)
	for i := range n {
		j, e := rand.Place(k, n, i)
		if e != api.OK || j != want[i] {
			t.Fatalf("Place(%v, %d, %d) = %d, %d, want %d", k, n, i, j, e, want[i])
		}
		if seen[j] {
			t.Fatalf("Place(%v, %d, %d) = %d, as another's", k, n, i, j)
		}
		seen[j] = true
		if back, e := rand.Back(k, n, j); e != api.OK || back != i {
			t.Fatalf("Back(%v, %d, %d) = %d, %d, want %d", k, n, j, back, e, i)
		}
	}
	if slices.Contains(seen, false) {
		t.Fatalf("Place(%v, %d): a place is no one's", k, n)
	}
}

// P5.5, P5.6: reckoned outside of the program.
func TestPlaceByHand(t *testing.T) {
	k := api.Key{Seed: 7, A: 1, B: 2, C: 3}
	cases := []struct {
		k    api.Key
		want []int
	}{
		{k, []int{0}},
		{k, []int{0, 1}},
		{k, []int{0, 2, 1}},
		{k, []int{0, 2, 3, 1}},
		{k, []int{3, 4, 2, 1, 0}},
		{k, []int{9, 4, 7, 1, 5, 8, 2, 6, 0, 3}},
		{k, []int{9, 15, 7, 13, 12, 8, 2, 10, 0, 3, 14, 6, 5, 1, 11, 4}},
		{k, []int{15, 5, 16, 0, 9, 13, 12, 6, 14, 2, 11, 7, 10, 4, 1, 3, 8}},
		{api.Key{Seed: ones, A: least, B: most, C: least}, []int{2, 1, 3, 4, 8, 0, 7, 9, 6, 5}},
	}
	for _, c := range cases {
		checkPlaces(t, c.k, len(c.want), c.want)
	}
}

// P5.5: of many numbers the first two and the last one, reckoned outside of the program.
func TestPlaceOfManyByHand(t *testing.T) {
	k := api.Key{Seed: 7, A: 1, B: 2, C: 3}
	for _, c := range []struct{ n, first, second, last int }{
		{64, 40, 5, 4}, {65, 4, 8, 30}, {256, 230, 113, 180}, {257, 51, 135, 156},
		{1024, 716, 723, 33}, {1025, 410, 662, 925}, {4096, 410, 3513, 2574}, {4097, 2060, 449, 3036},
		{16384, 10582, 10852, 8870}, {16385, 1138, 3895, 15838}, {65535, 1138, 65012, 33235}, {65536, 1138, 65012, 33702},
	} {
		for i, want := range map[int]int{0: c.first, 1: c.second, c.n - 1: c.last} {
			if got, e := rand.Place(k, c.n, i); e != api.OK || got != want {
				t.Errorf("Place(%v, %d, %d) = %d, %d, want %d", k, c.n, i, got, e, want)
			}
			if got, e := rand.Back(k, c.n, want); e != api.OK || got != i {
				t.Errorf("Back(%v, %d, %d) = %d, %d, want %d", k, c.n, want, got, e, i)
			}
		}
	}
}

// P5.5, P5.6: all keys and all small counts.
func TestPlaceOfFew(t *testing.T) {
	for _, k := range keys() {
		for n := 1; n <= 80; n++ {
			checkPlaces(t, k, n, placesOf(k, n))
		}
	}
}

// P5.5, P5.6: powers of four, one less and one more, up to the limit.
func TestPlaceOfMany(t *testing.T) {
	for _, k := range []api.Key{{}, {Seed: ones, A: least, B: -1, C: most}} {
		for _, n := range sizes() {
			checkPlaces(t, k, n, placesOf(k, n))
		}
	}
}

// P5.5: of one number there is one place, by whatever key.
func TestPlaceOfOne(t *testing.T) {
	for _, k := range keys() {
		checkPlaces(t, k, 1, []int{0})
	}
}

// P5.6: keys put numbers in orders of their own.
func TestPlaceHangsOnItsKey(t *testing.T) {
	of := func(k api.Key) []int {
		var list []int
		for i := range 100 {
			j, _ := rand.Place(k, 100, i)
			list = append(list, j)
		}
		return list
	}
	first := of(api.Key{Seed: 1})
	if !slices.Equal(first, of(api.Key{Seed: 1})) {
		t.Fatal("one key, two orders")
	}
	for _, k := range []api.Key{{}, {Seed: 2}, {Seed: 1, A: 1}, {Seed: 1, B: 1}, {Seed: 1, C: 1}} {
		if slices.Equal(first, of(k)) {
			t.Errorf("%v has the order of another key", k)
		}
	}
}

// P5.5
func TestPlaceAndBackAreRefused(t *testing.T) {
	cases := [][2]int{
		{0, 0}, {0, -1}, {0, 1}, {-1, 0}, {-1, -1}, {-1, -2}, {least, 0}, {least, least}, {most, 0}, {most, most - 1},
		{api.MaxDim + 1, 0}, {api.MaxDim + 1, 1}, {api.MaxDim + 1, api.MaxDim}, {2 * api.MaxDim, 0},
		{1, -1}, {1, 1}, {1, most}, {1, least},
	}
	for _, n := range sizes() {
		cases = append(cases, [2]int{n, -1}, [2]int{n, least}, [2]int{n, n}, [2]int{n, n + 1}, [2]int{n, most})
	}
	for _, k := range keys() {
		for _, c := range cases {
			if got, e := rand.Place(k, c[0], c[1]); e != api.ErrArg || got != 0 {
				t.Fatalf("Place(%v, %d, %d) = %d, %d", k, c[0], c[1], got, e)
			}
			if got, e := rand.Back(k, c[0], c[1]); e != api.ErrArg || got != 0 {
				t.Fatalf("Back(%v, %d, %d) = %d, %d", k, c[0], c[1], got, e)
			}
		}
	}
}
