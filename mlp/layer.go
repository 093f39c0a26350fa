package mlp

import (
	"slices"

	"regatta/api"
	"regatta/fix"
	"regatta/vec"
	"regatta/wide"
)

// places is how many bits of a number lie behind its point; of a product twice as many do.
const places = 32

// layer is what a net has between two sizes. Its lists are pieces of a list of parameters: what is written there is written into that list.
type layer struct {
	weights api.Mat
	offsets []api.Fix
}

// layersOf cuts a list that has as many parts as the net has parameters.
func layersOf(sizes []int, p []api.Fix) []layer {
	var layers []layer
	for i, out := range sizes[1:] {
		weights := out * sizes[i]
		layers = append(layers, layer{
			weights: api.Mat{Rows: out, Cols: sizes[i], A: p[:weights]},
			offsets: p[weights : weights+out],
		})
		p = p[weights+out:]
	}
	return layers
}

func (l layer) count() int {
	return len(l.weights.A) + len(l.offsets)
}

// row is the weights of the output o.
func (l layer) row(o int) []api.Fix {
	return l.weights.A[o*l.weights.Cols : (o+1)*l.weights.Cols]
}

// column is the weights of the input i.
func (l layer) column(i int) []api.Fix {
	column := make([]api.Fix, l.weights.Rows)
	for o := range column {
		column[o] = l.row(o)[i]
	}
	return column
}

// outputs is the sums of a layer at the values ahead of it.
func (l layer) outputs(u *fix.Unit, ahead []api.Fix) []api.Fix {
	out := make([]api.Fix, len(l.offsets))
	for o, offset := range l.offsets {
		exact := wide.Extend(wide.Shl(wide.Of(int64(offset)), places))
		out[o] = u.Near(withProducts(exact, l.row(o), ahead), places)
	}
	return out
}

// slopesAhead is the slopes at the values ahead of a layer, s being those at its outputs. Where a value isn't above 0 no sum is made, so that none is counted there.
func (l layer) slopesAhead(u *fix.Unit, s, ahead []api.Fix) []api.Fix {
	out := make([]api.Fix, len(ahead))
	for i, value := range ahead {
		if value > 0 {
			out[i], _ = vec.Dot(u, s, l.column(i))
		}
	}
	return out
}

// fill writes a layer's part of the gradient: s is the slopes at its outputs, ahead the values ahead of it.
func (l layer) fill(u *fix.Unit, s, ahead []api.Fix) {
	products, _ := vec.Outer(u, s, ahead)
	copy(l.weights.A, products.A)
	copy(l.offsets, s)
}

// forward is the values of a net, the input first.
func forward(u *fix.Unit, layers []layer, x []api.Fix) [][]api.Fix {
	values := [][]api.Fix{slices.Clone(x)}
	for i, l := range layers {
		out := l.outputs(u, values[i])
		if i < len(layers)-1 {
			raise(out)
		}
		values = append(values, out)
	}
	return values
}

// raise lets what is below 0 become 0.
func raise(values []api.Fix) {
	for i, value := range values {
		values[i] = max(value, 0)
	}
}

// gradient is the gradient at an example that fits the net, and the loss.
func gradient(u *fix.Unit, m measure, sizes []int, p []api.Fix, x api.Example) ([]api.Fix, api.Fix) {
	layers := layersOf(sizes, p)
	values := forward(u, layers, x.X)
	y := values[len(layers)]
	far, s := m.far(u, y, x.T), m.slope(u, y, x.T)
	g := make([]api.Fix, len(p))
	parts := layersOf(sizes, g)
	for done := range len(layers) {
		at := len(layers) - 1 - done
		parts[at].fill(u, s, values[at])
		if at > 0 {
			s = layers[at].slopesAhead(u, s, values[at])
		}
	}
	return g, far
}

// withProducts is a sum, and the products of the parts of a and b, exact; both are as long. MaxDim products, each of at most 126 bits, are far from the ends of a long number.
func withProducts(sum api.Long, a, b []api.Fix) api.Long {
	for i, x := range a {
		sum = wide.Plus(sum, wide.Extend(wide.Mul(int64(x), int64(b[i]))))
	}
	return sum
}
