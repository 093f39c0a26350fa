package mlp_test

import (
	"math"
	"testing"

	"regatta/api"
	"regatta/mlp"
	"regatta/rand"
)

// rightSizes are sizes that are right, and how many parameters each net has.
func rightSizes() []struct {
	sizes []int
	count int
} {
	return []struct {
		sizes []int
		count int
	}{
		{sizesOf(1, 1), 2},
		{sizesOf(2, 1), 3},
		{sizesOf(1, 2), 4},
		{sizesOf(3, 2), 8},
		{sizesOf(2, 3, 2), 17},
		{sizesOf(1, 64, 1), 193},
		{sizesOf(64, 1), 65},
		{sizesOf(1, 64), 128},
		{sizesOf(64, 64), 4160},
		{sizesOf(1, 1, 1, 1, 1, 1), 10},
		{sizesOf(1, 2, 3, 4, 5, 6), 4 + 9 + 16 + 25 + 36},
		{sizesOf(64, 64, 64, 64, 64, 64), 20800},
	}
}

// wrongSizes are sizes that aren't right: too few, too many, and each place with a size beyond an end.
func wrongSizes() [][]int {
	out := [][]int{nil, {}, {1}, {64}, {0}, fullSizes(api.MaxSizes+1, 1), fullSizes(api.MaxSizes+1, api.MaxSize), fullSizes(1000, 1)}
	for n := 2; n <= api.MaxSizes; n++ {
		for i := range n {
			for _, size := range []int{0, -1, -2, -api.MaxSize, api.MaxSize + 1, math.MaxInt, math.MinInt, 1 << 32, 1<<32 + 1} {
				sizes := fullSizes(n, 2)
				sizes[i] = size
				out = append(out, sizes)
			}
		}
	}
	return out
}

// P7.1
func TestCountByHand(t *testing.T) {
	for _, c := range rightSizes() {
		checkTold(t, "Count", count(c.sizes), told{number: int64(c.count)}, 0)
	}
}

// P7.1: the net of the most and greatest sizes has the most parameters of all, and they are no more than MaxDim.
func TestCountOfTheGreatestNet(t *testing.T) {
	n, e := mlp.Count(fullSizes(api.MaxSizes, api.MaxSize))
	if most := (api.MaxSizes - 1) * (api.MaxSize + 1) * api.MaxSize; e != api.OK || n != most || n > api.MaxDim {
		t.Error(n, e, most)
	}
}

// P7.1: each size alone counts, and their order.
func TestCountOfAllPairs(t *testing.T) {
	for in := 1; in <= api.MaxSize; in++ {
		for out := 1; out <= api.MaxSize; out++ {
			checkTold(t, "Count", count(sizesOf(in, out)), told{number: int64(in*out + out)}, 0)
		}
	}
}

// P7.1
func TestSplitByHand(t *testing.T) {
	p := list(1, 2, 3, 4, 5, 6, 7, 8, 9, 10, 11, 12, 13, 14, top, low, -1)
	checkNamed(t, []named{
		{"one layer of one", split(sizesOf(1, 1), list(5, 6)), told{lists: [][]api.Fix{{5}, {6}}, shapes: [][2]int{{1, 1}}}, 0},
		{"two to one", split(sizesOf(2, 1), list(5, 6, 7)), told{lists: [][]api.Fix{{5, 6}, {7}}, shapes: [][2]int{{1, 2}}}, 0},
		{"one to two", split(sizesOf(1, 2), list(5, 6, 7, 8)), told{lists: [][]api.Fix{{5, 6}, {7, 8}}, shapes: [][2]int{{2, 1}}}, 0},
		{"two layers", split(sizesOf(2, 3, 2), p), told{
			lists:  [][]api.Fix{{1, 2, 3, 4, 5, 6}, {7, 8, 9}, {10, 11, 12, 13, 14, top}, {low, -1}},
			shapes: [][2]int{{3, 2}, {2, 3}},
		}, 0},
		{"as many as may be", split(fullSizes(6, 1), list(1, 2, 3, 4, 5, 6, 7, 8, 9, 10)), told{
			lists:  [][]api.Fix{{1}, {2}, {3}, {4}, {5}, {6}, {7}, {8}, {9}, {10}},
			shapes: [][2]int{{1, 1}, {1, 1}, {1, 1}, {1, 1}, {1, 1}},
		}, 0},
	})
}

// P7.1: each parameter is found in the place that the chapter names.
func TestSplitOfMixedNets(t *testing.T) {
	m := mixed(71)
	for range 300 {
		n := netOf(m)
		weights, offsets, e := mlp.Split(n.sizes, n.p)
		if e != api.OK || len(weights) != n.layers() || len(offsets) != n.layers() {
			t.Fatal(n.sizes, len(weights), len(offsets), e)
		}
		for k, w := range weights {
			if w.Rows != n.sizes[k+1] || w.Cols != n.sizes[k] || len(w.A) != w.Rows*w.Cols || len(offsets[k]) != w.Rows {
				t.Fatal(n.sizes, k, w.Rows, w.Cols, len(w.A), len(offsets[k]))
			}
			for o := range w.Rows {
				for i := range w.Cols {
					if w.A[o*w.Cols+i] != n.p[n.weightPlace(k, o, i)] {
						t.Fatal(n.sizes, k, o, i)
					}
				}
				if offsets[k][o] != n.p[n.offsetPlace(k, o)] {
					t.Fatal(n.sizes, k, o)
				}
			}
		}
	}
}

// P7.2: numbers that were reckoned outside of the program.
func TestInitByHand(t *testing.T) {
	checkNamed(t, []named{
		{"the least seed", initial(0, sizesOf(3, 2, 2)), told{lists: [][]api.Fix{{
			-136446542, 192207127, -986803810, 970839593, -449035926, -812193478, 0, 0,
			-630042895, 415550511, 1068660038, -272710298, 0, 0,
		}}}, 0},
		{"the seed 1", initial(1, sizesOf(3, 2, 2)), told{lists: [][]api.Fix{{
			-634054508, 1051827348, 835223327, 1268227893, -280153182, -814825940, 0, 0,
			383470761, 946596978, 390830100, 2063007714, 0, 0,
		}}}, 0},
		{"the greatest seed", initial(math.MaxUint64, sizesOf(3, 2, 2)), told{lists: [][]api.Fix{{
			-361305303, -738958049, -152486223, 1171433347, -928318277, -798265165, 0, 0,
			-307407400, 1619320343, -1604272474, 2121479376, 0, 0,
		}}}, 0},
		{"one weight", initial(5, sizesOf(1, 1)), told{lists: [][]api.Fix{{-211384778, 0}}}, 0},
		{"from one to three", initial(9, sizesOf(2, 1, 3)), told{lists: [][]api.Fix{{
			-1402132204, 1812538753, 0, -1192806032, -2525356412, -2823855080, 0, 0, 0,
		}}}, 0},
	})
}

// P7.2
func TestInitOfAllNets(t *testing.T) {
	for _, c := range rightSizes() {
		for _, seed := range []uint64{0, 1, 77, 1 << 63, math.MaxUint64} {
			p, e := mlp.Init(seed, c.sizes)
			if e != api.OK || len(p) != c.count {
				t.Fatal(c.sizes, len(p), e)
			}
			checkInit(t, seed, net{c.sizes, p})
		}
	}
}

// checkInit holds parameters to begin with against layer 5, place by place.
func checkInit(t *testing.T, seed uint64, n net) {
	t.Helper()
	key := api.Key{Seed: seed, A: 3}
	for k := range n.layers() {
		// The nearest number of steps to 1 / in; no in up to MaxSize lies in the middle of two.
		in := api.Fix(n.sizes[k])
		b := (one + in/2) / in
		for o := range n.sizes[k+1] {
			for i := range n.sizes[k] {
				j := n.weightPlace(k, o, i)
				if want := rand.Between(key, j, -b, b); n.p[j] != want || want < -b || want >= b {
					t.Fatal(seed, n.sizes, j, n.p[j], want)
				}
			}
			if j := n.offsetPlace(k, o); n.p[j] != 0 {
				t.Fatal(seed, n.sizes, j, n.p[j])
			}
		}
	}
}

// P7.3
func TestForwardByHand(t *testing.T) {
	checkNamed(t, []named{
		{"the chapter's", forward(sizesOf(2, 1), full(3, one), list(2*one, 3*one)), values(list(2*one, 3*one), list(6*one)), 0},
		{"outputs below 0 stay", forward(sizesOf(1, 1), list(one, 0), list(-5*one)), values(list(-5*one), list(-5*one)), 0},
		{"inputs below 0 stay", forward(sizesOf(1, 1, 1), list(-one, 0, one, 0), list(-5*one)), values(list(-5*one), list(5*one), list(5*one)), 0},
		{"each row its own", forward(sizesOf(2, 2), list(one, 2*one, 3*one, 4*one, 5*one, 6*one), list(one, 10*one)), values(list(one, 10*one), list(26*one, 49*one)), 0},
		{"hidden ones below 0, at 0 and above", forward(sizesOf(1, 3, 1), list(-one, 0, one, 0, 0, 0, one, 2*one, 3*one, one), list(4*one)),
			values(list(4*one), list(0, 0, 4*one), list(13*one)), 0},
		{"hidden ones a step from 0", forward(sizesOf(1, 3, 3), list(0, 0, 0, -1, 0, 1, -one, 0, 0, 0, -one, 0, 0, 0, -one, 0, 0, 0), list(one)),
			values(list(one), list(0, 0, 1), list(0, 0, -1)), 0},
		{"two hidden layers", forward(sizesOf(1, 1, 1, 1), list(2*one, one, -one, 10*one, 3*one, -100*one), list(3*one)),
			values(list(3*one), list(7*one), list(3*one), list(-91*one)), 0},
		{"two halves, rounded once", forward(sizesOf(2, 1), list(1, 1, 0), list(half, half)), values(list(half, half), list(1)), 0},
		{"a half to the even one", forward(sizesOf(1, 1), list(1, 0), list(half)), values(list(half), list(0)), 0},
		{"a half and an offset", forward(sizesOf(1, 1), list(1, 1), list(half)), values(list(half), list(2)), 0},
		{"a half below 0 and an offset", forward(sizesOf(1, 1), list(-1, -2), list(half)), values(list(half), list(-2)), 0},
	})
}

// P7.3: what is held is counted, be it cut off behind.
func TestForwardThatIsHeld(t *testing.T) {
	checkNamed(t, []named{
		{"at the upper end by itself", forward(sizesOf(1, 1), list(top, 0), list(one)), values(list(one), list(top)), 0},
		{"at the lower end by itself", forward(sizesOf(1, 1), list(low, 0), list(one)), values(list(one), list(low)), 0},
		{"one step above", forward(sizesOf(1, 1), list(top, 1), list(one)), values(list(one), list(top)), 1},
		{"one step below", forward(sizesOf(1, 1), list(low, -1), list(one)), values(list(one), list(low)), 1},
		{"a half step above", forward(sizesOf(2, 1), list(top, 1, 0), list(one, half)), values(list(one, half), list(top)), 1},
		{"a half step below goes back", forward(sizesOf(2, 1), list(low, -1, 0), list(one, half)), values(list(one, half), list(low)), 0},
		{"out of the range and back", forward(sizesOf(1, 1), list(top, low), list(2*one)), values(list(2*one), list(top-1)), 0},
		{"far above", forward(sizesOf(2, 1), list(top, low, top), list(top, low)), values(list(top, low), list(top)), 1},
		{"far below", forward(sizesOf(2, 1), list(low, top, low), list(top, low)), values(list(top, low), list(low)), 1},
		{"each output", forward(sizesOf(1, 3), list(top, low, one, one, -one, 0), list(one)), values(list(one), list(top, low, one)), 2},
		{"hidden ones", forward(sizesOf(1, 2, 1), list(low, top, -one, one, one, one, 0), list(one)), values(list(one), list(0, top), list(top)), 2},
		{"hidden ones, and what comes of them", forward(sizesOf(1, 2, 1), list(low, top, -one, one, one, one, 1), list(one)), values(list(one), list(0, top), list(top)), 3},
	})
}

func values(all ...[]api.Fix) told { return told{lists: all} }

// P7.3
func TestForwardOfMixedNets(t *testing.T) {
	m := mixed(73)
	for range 3000 {
		n := netOf(m)
		x := n.input(m)
		reckoned := &model{}
		want := reckoned.forward(n, x)
		checkTold(t, "Forward", forward(n.sizes, n.p, x), told{lists: want}, reckoned.held)
	}
}

// P7.3: the greatest net.
func TestForwardOfTheGreatestNet(t *testing.T) {
	n := net{sizes: fullSizes(api.MaxSizes, api.MaxSize)}
	p, e := mlp.Init(3, n.sizes)
	if e != api.OK {
		t.Fatal(e)
	}
	n.p = p
	x := vectorOf(mixed(74), api.MaxSize)
	reckoned := &model{}
	want := reckoned.forward(n, x)
	checkTold(t, "Forward", forward(n.sizes, n.p, x), told{lists: want}, reckoned.held)
	n.p = full(len(p), top)
	reckoned = &model{}
	want = reckoned.forward(n, full(api.MaxSize, top))
	checkTold(t, "Forward of ends", forward(n.sizes, n.p, full(api.MaxSize, top)), told{lists: want}, reckoned.held)
	if reckoned.held != 5*api.MaxSize {
		t.Error(reckoned.held)
	}
}
