package pack_test

import (
	"bytes"
	"math"
	"math/big"
	"math/rand/v2"
	"slices"
	"testing"

	"regatta/api"
	"regatta/pack"
)

// The kinds of things, in the order of the calls.
const (
	aCount = iota
	aWhole
	aFix
	aText
	someWholes
	someFixes
	kinds
)

// thing is what one call writes or reads: the field of its kind.
type thing struct {
	kind   int
	count  uint64
	whole  int
	fix    api.Fix
	text   []byte
	wholes []int
	fixes  []api.Fix
}

func same(a, b thing) bool {
	return a.kind == b.kind && a.count == b.count && a.whole == b.whole && a.fix == b.fix &&
		bytes.Equal(a.text, b.text) && slices.Equal(a.wholes, b.wholes) && slices.Equal(a.fixes, b.fixes)
}

func write(w *pack.Writer, things ...thing) {
	for _, x := range things {
		switch x.kind {
		case aCount:
			w.Uint(x.count)
		case aWhole:
			w.Int(x.whole)
		case aFix:
			w.Fix(x.fix)
		case aText:
			w.Bytes(x.text)
		case someWholes:
			w.Ints(x.wholes)
		case someFixes:
			w.Fixes(x.fixes)
		}
	}
}

func read(r *pack.Reader, kind int) thing {
	out := thing{kind: kind}
	switch kind {
	case aCount:
		out.count = r.Uint()
	case aWhole:
		out.whole = r.Int()
	case aFix:
		out.fix = r.Fix()
	case aText:
		out.text = r.Bytes()
	case someWholes:
		out.wholes = r.Ints()
	case someFixes:
		out.fixes = r.Fixes()
	}
	return out
}

// written is what a new writer has behind these things.
func written(t *testing.T, things ...thing) []byte {
	t.Helper()
	w := &pack.Writer{}
	write(w, things...)
	b, e := w.Done()
	if e != api.OK {
		t.Fatalf("%+v: %d", things, e)
	}
	return b
}

func shuffled(seed uint64) *rand.Rand { return rand.New(rand.NewPCG(seed, 12)) }

// digitsOf are the digits of a number to a base, the lowest first; at least one.
func digitsOf(n *big.Int, base int64) []byte {
	var out []byte
	rest, digit := new(big.Int).Set(n), new(big.Int)
	for len(out) == 0 || rest.Sign() > 0 {
		rest.DivMod(rest, big.NewInt(base), digit)
		out = append(out, byte(digit.Int64()))
	}
	return out
}

// formOfCount is the form of a count, by its digits to the base 128.
func formOfCount(n *big.Int) []byte {
	out := digitsOf(n, 128)
	for i := range len(out) - 1 {
		out[i] += 128
	}
	return out
}

// formOfWhole is the form of a whole number, with its count reckoned as the chapter says it.
func formOfWhole(n int) []byte {
	if n >= 0 {
		return formOfCount(new(big.Int).Mul(big.NewInt(2), big.NewInt(int64(n))))
	}
	count := new(big.Int).Mul(big.NewInt(-2), big.NewInt(int64(n)))
	return formOfCount(count.Sub(count, big.NewInt(1)))
}

// formOfFix is the form of a Fix, by its digits to the base 256.
func formOfFix(x api.Fix) []byte {
	n := big.NewInt(int64(x))
	if x < 0 {
		n.Add(n, new(big.Int).Lsh(big.NewInt(1), 64))
	}
	out := digitsOf(n, 256)
	return append(out, make([]byte, 8-len(out))...)
}

func formOfLength(n int) []byte { return formOfCount(big.NewInt(int64(n))) }

// formOf are the forms of things, one behind the other.
func formOf(things ...thing) []byte {
	var out []byte
	for _, x := range things {
		switch x.kind {
		case aCount:
			out = append(out, formOfCount(new(big.Int).SetUint64(x.count))...)
		case aWhole:
			out = append(out, formOfWhole(x.whole)...)
		case aFix:
			out = append(out, formOfFix(x.fix)...)
		case aText:
			out = append(append(out, formOfLength(len(x.text))...), x.text...)
		case someWholes:
			out = append(out, formOfLength(len(x.wholes))...)
			for _, n := range x.wholes {
				out = append(out, formOfWhole(n)...)
			}
		case someFixes:
			out = append(out, formOfLength(len(x.fixes))...)
			for _, f := range x.fixes {
				out = append(out, formOfFix(f)...)
			}
		}
	}
	return out
}

// model is a reader that knows a count to be right by making its form anew.
type model struct {
	left  []byte
	fault api.Errno
}

// front is what the next n bytes are; none, with the error, if they aren't there.
func (m *model) front(n int) []byte {
	if n > len(m.left) {
		m.fault = api.ErrEnd
		return nil
	}
	out := m.left[:n]
	m.left = m.left[n:]
	return out
}

func (m *model) count() *big.Int {
	n, worth := new(big.Int), big.NewInt(1)
	for i, x := range m.left {
		if i == 9 && x > 1 {
			m.fault = api.ErrForm
			return new(big.Int)
		}
		n.Add(n, new(big.Int).Mul(worth, big.NewInt(int64(x%128))))
		worth.Mul(worth, big.NewInt(128))
		if x >= 128 {
			continue
		}
		if !bytes.Equal(formOfCount(n), m.left[:i+1]) {
			m.fault = api.ErrForm
			return new(big.Int)
		}
		m.left = m.left[i+1:]
		return n
	}
	m.fault = api.ErrEnd
	return new(big.Int)
}

// length is the count of a list whose items have at least so many bytes.
func (m *model) length(least int) int {
	n := m.count()
	if m.fault == api.OK && new(big.Int).Mul(n, big.NewInt(int64(least))).Cmp(big.NewInt(int64(len(m.left)))) > 0 {
		m.fault = api.ErrEnd
	}
	if m.fault != api.OK {
		return 0
	}
	return int(n.Int64())
}

func (m *model) whole() int {
	half, odd := new(big.Int).DivMod(m.count(), big.NewInt(2), new(big.Int))
	if odd.Sign() > 0 {
		half.Neg(half.Add(half, big.NewInt(1)))
	}
	return int(half.Int64())
}

func (m *model) fix() api.Fix {
	n := new(big.Int)
	b := slices.Clone(m.front(8))
	slices.Reverse(b)
	n.SetBytes(b)
	if n.Bit(63) == 1 {
		n.Sub(n, new(big.Int).Lsh(big.NewInt(1), 64))
	}
	return api.Fix(n.Int64())
}

func (m *model) read(kind int) thing {
	out := thing{kind: kind}
	if m.fault != api.OK {
		return out
	}
	switch kind {
	case aCount:
		out.count = m.count().Uint64()
	case aWhole:
		out.whole = m.whole()
	case aFix:
		out.fix = m.fix()
	case aText:
		out.text = m.front(m.length(1))
	case someWholes:
		for n := m.length(1); n > 0 && m.fault == api.OK; n-- {
			out.wholes = append(out.wholes, m.whole())
		}
	case someFixes:
		for n := m.length(8); n > 0 && m.fault == api.OK; n-- {
			out.fixes = append(out.fixes, m.fix())
		}
	}
	if m.fault != api.OK {
		return thing{kind: kind}
	}
	return out
}

func (m *model) done() api.Errno {
	if m.fault == api.OK && len(m.left) > 0 {
		return api.ErrLeft
	}
	return m.fault
}

// counts are the ends, what lies about each power of 128 and of 2, and some of all sizes.
func counts() []uint64 {
	out := []uint64{0, 1, 2, 127, 128, 129, 255, 256, 300, 1 << 63, 1<<63 + 1, math.MaxUint64 - 1, math.MaxUint64}
	for i := range 64 {
		out = append(out, 1<<i-1, 1<<i, 1<<i+1)
	}
	r := shuffled(1)
	for range 300 {
		out = append(out, r.Uint64()>>r.IntN(64))
	}
	return out
}

// wholes are the ends, nought and its neighbours, what lies about the powers of 2 of either sign, and some of all sizes.
func wholes() []int {
	out := []int{0, 1, -1, 2, -2, 63, 64, 65, -63, -64, -65, -66, math.MaxInt, math.MaxInt - 1, math.MinInt, math.MinInt + 1}
	for i := range 63 {
		out = append(out, 1<<i-1, 1<<i, 1<<i+1, -1<<i-1, -1<<i, -1<<i+1)
	}
	r := shuffled(2)
	for range 300 {
		out = append(out, int(int64(r.Uint64())>>r.IntN(64)))
	}
	return out
}

func fixes() []api.Fix {
	out := []api.Fix{api.One, -api.One, api.MaxFix, api.MinFix}
	for _, n := range wholes() {
		out = append(out, api.Fix(n))
	}
	return out
}

// anyThing is one of all kinds, with lists of none, of some, and now and then of so many that their count has two bytes.
func anyThing(r *rand.Rand) thing {
	n := []int{0, 1, 2, r.IntN(8), r.IntN(8), 120 + r.IntN(20)}[r.IntN(6)]
	x := thing{kind: r.IntN(kinds)}
	switch x.kind {
	case aCount:
		x.count = r.Uint64() >> r.IntN(64)
	case aWhole:
		x.whole = int(int64(r.Uint64()) >> r.IntN(64))
	case aFix:
		x.fix = api.Fix(r.Uint64()) >> r.IntN(64)
	case aText:
		for range n {
			x.text = append(x.text, byte(r.Uint32()))
		}
	case someWholes:
		for range n {
			x.wholes = append(x.wholes, int(int64(r.Uint64())>>r.IntN(64)))
		}
	case someFixes:
		for range n {
			x.fixes = append(x.fixes, api.Fix(r.Uint64())>>r.IntN(64))
		}
	}
	return x
}

func someThings(r *rand.Rand, n int) []thing {
	var out []thing
	for range n {
		out = append(out, anyThing(r))
	}
	return out
}
