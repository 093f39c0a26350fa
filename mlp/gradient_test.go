package mlp_test

import (
	"testing"

	"regatta/api"
	"regatta/fix"
	"regatta/mlp"
)

func example(x, t []api.Fix) api.Example { return api.Example{X: x, T: t} }

func way(far api.Fix, g ...api.Fix) told {
	return told{lists: lists(g), number: int64(far)}
}

// P7.5
func TestGradientByHand(t *testing.T) {
	at := example(list(2*one, 3*one), list(4*one))
	one21 := full(3, one)
	hidden := list(-one, 0, one, 0, 0, 0, one, 2*one, 3*one, one)
	checkNamed(t, []named{
		{"the chapter's", gradient(api.Squared, sizesOf(2, 1), one21, at), way(2*one, 4*one, 6*one, 2*one), 0},
		{"the chapter's, hinge", gradient(api.Hinge, sizesOf(2, 1), one21, example(at.X, list(one))), way(0, 0, 0, 0), 0},
		{"hinge on the other side", gradient(api.Hinge, sizesOf(2, 1), one21, example(at.X, list(-one))), way(7*one, 2*one, 3*one, one), 0},
		{"met", gradient(api.Squared, sizesOf(2, 1), one21, example(at.X, list(6*one))), way(0, 0, 0, 0), 0},
		{"two outputs", gradient(api.Squared, sizesOf(2, 2), list(one, 0, 0, one, 0, 0), example(list(2*one, -3*one), list(one, one))),
			way(17*half, 2*one, -3*one, -8*one, 12*one, one, -4*one), 0},
		{"hidden ones below 0, at 0 and above", gradient(api.Squared, sizesOf(1, 3, 1), hidden, example(list(4*one), list(11*one))),
			way(2*one, 0, 0, 24*one, 0, 0, 6*one, 0, 0, 8*one, 2*one), 0},
		{"two hidden layers", gradient(api.Squared, sizesOf(1, 1, 1, 1), list(2*one, one, -one, 10*one, 3*one, -100*one), example(list(3*one), list(-90*one))),
			way(half, 9*one, 3*one, -21*one, -3*one, -3*one, -one), 0},
		{"inputs that aren't above 0", gradient(api.Squared, sizesOf(3, 1, 1), list(one, one, one, 9*one, one, 0), example(list(-one, 0, one), list(8*one))),
			way(half, -one, 0, one, one, 9*one, one), 0},
	})
}

// P7.5: numbers that were reckoned outside of the program.
func TestGradientOfADrawnNet(t *testing.T) {
	sizes := sizesOf(2, 3, 2, 2)
	p, e := mlp.Init(12, sizes)
	if e != api.OK {
		t.Fatal(e)
	}
	x := example(list(-2*one, 5*one), list(-one, one))
	checkNamed(t, []named{
		{"the values", forward(sizes, p, x.X), values(x.X, list(5797230641, 0, 7355914126), list(1289259774, 0), list(-493862549, -122593620)), 0},
		{"squared", gradient(api.Squared, sizes, p, x), way(3953841718,
			272288412, -680721030, 0, 0, 148560498, -371401245, -136144206, 0, -74280249,
			-1398349450, 0, -1774319345, 0, 0, 0, -1035988652, 0,
			1141012518, 0, -1326059827, 0, 3801104747, -4417560916), 0},
		{"hinge", gradient(api.Hinge, sizes, p, x), way(8218665663,
			325073968, -812684920, 0, 0, 177360288, -443400720, -162536984, 0, -88680144,
			-1669432069, 0, -2118287110, 0, 0, 0, -1236824371, 0,
			1289259774, 0, -1289259774, 0, 4294967296, -4294967296), 0},
	})
}

// P7.5: held ones are counted of the values, of the loss, of the slope, and of the gradient.
func TestGradientThatIsHeld(t *testing.T) {
	checkNamed(t, []named{
		{"d, of the loss and of the slope, and the sum", gradient(api.Squared, sizesOf(1, 1), list(top, 0), example(list(one), list(low))),
			way(top, top, top), 3},
		{"below", gradient(api.Squared, sizesOf(1, 1), list(low, 0), example(list(one), list(top))), way(top, low, low), 3},
		{"a value besides", gradient(api.Squared, sizesOf(1, 1), list(top, 1), example(list(one), list(low))), way(top, top, top), 4},
		{"a weight's part besides", gradient(api.Squared, sizesOf(1, 1), list(half, 0), example(list(2*one), list(low))), way(top, top, top), 4},
		{"a weight's part below", gradient(api.Squared, sizesOf(1, 1), list(half, 0), example(list(2*one), list(top))), way(top, low, -(top - one)), 2},
		{"hinge", gradient(api.Hinge, sizesOf(1, 1), list(one, 0), example(list(2*one), list(low))), way(top, top, top), 6},
		{"no slope is reckoned at the inputs", gradient(api.Squared, sizesOf(1, 1), list(top, 0), example(list(one), list(top-2*one))),
			way(2*one, 2*one, 2*one), 0},
		{"a hidden slope, once", gradient(api.Squared, sizesOf(1, 1, 1), list(one, 0, top, 0), example(list(one), list(top-2*one))),
			way(2*one, top, top, 2*one, 2*one), 1},
		{"a hidden slope below, once", gradient(api.Squared, sizesOf(1, 1, 1), list(one, 0, low, 0), example(list(one), list(low+6*one))),
			way(18*one, top, top, -6*one, -6*one), 1},
		{"no hidden slope where the value is 0", gradient(api.Squared, sizesOf(1, 1, 1), list(0, 0, top, 0), example(list(one), list(-2*one))),
			way(2*one, 0, 0, 0, 2*one), 0},
		{"no hidden slope where the value was below 0", gradient(api.Squared, sizesOf(1, 1, 1), list(-one, 0, low, 0), example(list(one), list(-2*one))),
			way(2*one, 0, 0, 0, 2*one), 0},
		{"a hidden value that became 0", gradient(api.Squared, sizesOf(1, 1, 1), list(low, -1, top, 0), example(list(one), list(-2*one))),
			way(2*one, 0, 0, 0, 2*one), 1},
	})
}

// P7.5: a hidden slope is the sum over all outputs, exact until its end.
func TestHiddenSlopesAreRoundedOnce(t *testing.T) {
	checkNamed(t, []named{
		// Both slopes are half, both weights a step.
		{"two halves of a step", gradient(api.Squared, sizesOf(1, 1, 2), list(0, one, 1, 1, 0, 0), example(list(one), list(-half+1, -half+1))),
			way(one/4, 1, 1, half, half, half, half), 0},
		{"out of the range and back", gradient(api.Squared, sizesOf(1, 1, 2), list(0, 1, top, -top, 0, 0), example(list(one), list(half-4*one, -half-4*one))),
			way(16*one, 0, 0, 4, 4, 4*one, 4*one), 0},
	})
}

// P7.5
func TestGradientOfMixedNets(t *testing.T) {
	m := mixed(75)
	for i := range 4000 {
		kind := []int{api.Squared, api.Hinge}[i%2]
		n := netOf(m)
		x := n.example(m)
		reckoned := &model{}
		g, far := reckoned.gradient(kind, n, x)
		checkTold(t, "Gradient", gradient(kind, n.sizes, n.p, x), way(far, g...), reckoned.held)
	}
}

// P7.5: what is counted is what Forward, Loss and Slope count, and what the gradient's own sums and products come to.
func TestGradientCountsEachOnce(t *testing.T) {
	m := mixed(76)
	for i := range 500 {
		kind := []int{api.Squared, api.Hinge}[i%2]
		n := net{sizes: sizesOf(1+m.IntN(3), 1+m.IntN(3))}
		n.p = vectorOf(m, n.first(1))
		x := n.example(m)
		u, all := &fix.Unit{}, &fix.Unit{}
		v, _ := mlp.Forward(u, n.sizes, n.p, x.X)
		mlp.Loss(u, kind, v[1], x.T)
		s, _ := mlp.Slope(u, kind, v[1], x.T)
		for _, so := range s {
			for _, vi := range x.X {
				u.Mul(so, vi)
			}
		}
		if _, _, e := mlp.Gradient(all, kind, n.sizes, n.p, x); e != api.OK || all.Count() != u.Count() {
			t.Fatal(kind, n, x, all.Count(), u.Count(), e)
		}
	}
}

// P7.6
func TestBatchByHand(t *testing.T) {
	sizes, p := sizesOf(2, 1), full(3, one)
	two := []api.Example{example(list(2*one, 3*one), list(4*one)), example(list(0, 0), list(0))}
	steps := func(t ...api.Fix) []api.Example {
		var out []api.Example
		for _, to := range t {
			out = append(out, example(list(0), list(to)))
		}
		return out
	}
	checkNamed(t, []named{
		{"one", batch(api.Squared, sizes, p, two[:1]), way(2*one, 4*one, 6*one, 2*one), 0},
		{"two", batch(api.Squared, sizes, p, two), way(5*one/4, 2*one, 3*one, 3*half), 0},
		{"two, hinge", batch(api.Hinge, sizes, p, two), way(half, 0, 0, 0), 0},
		{"a mean of halves to the even one", batch(api.Squared, sizesOf(1, 1), list(0, 0), steps(-1, -2)), way(0, 0, 2), 0},
		{"a mean of a half below", batch(api.Squared, sizesOf(1, 1), list(0, 0), steps(0, -1)), way(0, 0, 0), 0},
		{"a mean of three", batch(api.Squared, sizesOf(1, 1), list(0, 0), steps(0, -1, -1)), way(0, 0, 1), 0},
		{"losses whose sum is beyond the range", batch(api.Squared, sizesOf(1, 1), list(0, 0), steps(top, top, top)), way(top, 0, -top), 3},
		{"held ones of each example", batch(api.Squared, sizesOf(1, 1), list(0, top), steps(low, 0, low)), way(top, 0, top), 7},
	})
}

// P7.6: numbers that were reckoned outside of the program.
func TestBatchOfADrawnNet(t *testing.T) {
	sizes := sizesOf(2, 3, 2, 2)
	p, e := mlp.Init(12, sizes)
	if e != api.OK {
		t.Fatal(e)
	}
	three := []api.Example{
		example(list(one, -half), list(one/4, -one)),
		example(list(3*one, 1431655765), list(one, -one)),
		example(list(-2*one, 5*one), list(-one, one)),
	}
	checkNamed(t, []named{
		{"squared", batch(api.Squared, sizes, p, three), way(3717791257,
			614070670, -214969565, 0, 0, 49520166, -123800415, 179463143, 0, -24760083,
			139369481, 0, -591439782, 919798289, 0, 0, 111182123, 1125914674,
			98166776, -314381504, -142106954, 334149103, -655396549, 1470983330), 0},
		{"hinge", batch(api.Hinge, sizes, p, three), way(8667177352,
			601277721, -261519432, 0, 0, 59120096, -147800240, 159647566, 0, -29560048,
			-3002145, 0, -706095703, 876024907, 0, 0, 968330, 1089498917,
			168570232, -290997981, -142507934, 320035381, -357913941, 1431655765), 0},
	})
}

// P7.6
func TestBatchOfMixedNets(t *testing.T) {
	m := mixed(77)
	for i := range 600 {
		kind := []int{api.Squared, api.Hinge}[i%2]
		n := netOf(m)
		count := []int{1, 2, 3, 5, api.MaxBatch - 1, api.MaxBatch}[m.IntN(6)]
		var examples []api.Example
		for range count {
			examples = append(examples, n.example(m))
		}
		reckoned := &model{}
		g, far := reckoned.batch(kind, n, examples)
		checkTold(t, "Batch", batch(kind, n.sizes, n.p, examples), way(far, g...), reckoned.held)
	}
}

// P7.5, P7.6: the greatest net, and as many examples as there may be, all of them one.
func TestGradientOfTheGreatestNet(t *testing.T) {
	n := net{sizes: fullSizes(api.MaxSizes, api.MaxSize)}
	p, e := mlp.Init(4, n.sizes)
	if e != api.OK {
		t.Fatal(e)
	}
	n.p = p
	x := n.example(mixed(78))
	reckoned := &model{}
	g, far := reckoned.gradient(api.Squared, n, x)
	checkTold(t, "Gradient", gradient(api.Squared, n.sizes, n.p, x), way(far, g...), reckoned.held)
	examples := make([]api.Example, api.MaxBatch)
	for i := range examples {
		examples[i] = x
	}
	checkTold(t, "Batch", batch(api.Squared, n.sizes, n.p, examples), way(far, g...), api.MaxBatch*reckoned.held)
}
