package pack_test

import (
	"bytes"
	"encoding/hex"
	"math"
	"testing"

	"regatta/api"
	"regatta/pack"
)

// known is a thing, and its form to the base 16, reckoned outside of the program.
type known struct {
	thing
	form string
}

func knownForms() []known {
	return []known{
		{thing{kind: aCount, count: 0}, "00"},
		{thing{kind: aCount, count: 1}, "01"},
		{thing{kind: aCount, count: 127}, "7f"},
		{thing{kind: aCount, count: 128}, "8001"},
		{thing{kind: aCount, count: 300}, "ac02"},
		{thing{kind: aCount, count: 16383}, "ff7f"},
		{thing{kind: aCount, count: 16384}, "808001"},
		{thing{kind: aCount, count: 2097151}, "ffff7f"},
		{thing{kind: aCount, count: 2097152}, "80808001"},
		{thing{kind: aCount, count: 1<<63 - 1}, "ffffffffffffffff7f"},
		{thing{kind: aCount, count: 1 << 63}, "80808080808080808001"},
		{thing{kind: aCount, count: math.MaxUint64}, "ffffffffffffffffff01"},
		{thing{kind: aWhole, whole: 0}, "00"},
		{thing{kind: aWhole, whole: 1}, "02"},
		{thing{kind: aWhole, whole: -1}, "01"},
		{thing{kind: aWhole, whole: 2}, "04"},
		{thing{kind: aWhole, whole: -2}, "03"},
		{thing{kind: aWhole, whole: 63}, "7e"},
		{thing{kind: aWhole, whole: 64}, "8001"},
		{thing{kind: aWhole, whole: -64}, "7f"},
		{thing{kind: aWhole, whole: -65}, "8101"},
		{thing{kind: aWhole, whole: 8191}, "fe7f"},
		{thing{kind: aWhole, whole: -8193}, "818001"},
		{thing{kind: aWhole, whole: math.MaxInt}, "feffffffffffffffff01"},
		{thing{kind: aWhole, whole: math.MinInt}, "ffffffffffffffffff01"},
		{thing{kind: aWhole, whole: math.MinInt + 1}, "fdffffffffffffffff01"},
		{thing{kind: aFix, fix: 0}, "0000000000000000"},
		{thing{kind: aFix, fix: 1}, "0100000000000000"},
		{thing{kind: aFix, fix: -1}, "ffffffffffffffff"},
		{thing{kind: aFix, fix: api.One}, "0000000001000000"},
		{thing{kind: aFix, fix: -api.One}, "00000000ffffffff"},
		{thing{kind: aFix, fix: api.MaxFix}, "ffffffffffffff7f"},
		{thing{kind: aFix, fix: api.MinFix}, "0000000000000080"},
		{thing{kind: aFix, fix: 0x0102030405060708}, "0807060504030201"},
		{thing{kind: aText}, "00"},
		{thing{kind: aText, text: []byte{}}, "00"},
		{thing{kind: aText, text: []byte{0}}, "0100"},
		{thing{kind: aText, text: []byte("ab")}, "026162"},
		{thing{kind: aText, text: []byte{255, 128, 0}}, "03ff8000"},
		{thing{kind: someWholes}, "00"},
		{thing{kind: someWholes, wholes: []int{}}, "00"},
		{thing{kind: someWholes, wholes: []int{-1}}, "0101"},
		{thing{kind: someWholes, wholes: []int{1, 64, -65, 0}}, "0402" + "8001" + "8101" + "00"},
		{thing{kind: someWholes, wholes: []int{math.MinInt, math.MaxInt}}, "02" + "ffffffffffffffffff01" + "feffffffffffffffff01"},
		{thing{kind: someFixes}, "00"},
		{thing{kind: someFixes, fixes: []api.Fix{}}, "00"},
		{thing{kind: someFixes, fixes: []api.Fix{1}}, "01" + "0100000000000000"},
		{thing{kind: someFixes, fixes: []api.Fix{-2, api.MinFix}}, "02" + "feffffffffffffff" + "0000000000000080"},
	}
}

// P12.1: forms that were reckoned by hand; the model, that the other tests lean on, makes the same ones.
func TestKnownForms(t *testing.T) {
	for _, k := range knownForms() {
		if got := hex.EncodeToString(written(t, k.thing)); got != k.form {
			t.Errorf("%+v: %s, want %s", k.thing, got, k.form)
		}
		if got := hex.EncodeToString(formOf(k.thing)); got != k.form {
			t.Errorf("the model, %+v: %s, want %s", k.thing, got, k.form)
		}
	}
}

func checkWritten(t *testing.T, things ...thing) {
	t.Helper()
	if got, want := written(t, things...), formOf(things...); !bytes.Equal(got, want) {
		t.Fatalf("%+v: %x, want %x", things, got, want)
	}
}

// P12.1: numbers alone.
func TestNumbersWritten(t *testing.T) {
	for _, n := range counts() {
		checkWritten(t, thing{kind: aCount, count: n})
	}
	for _, n := range wholes() {
		checkWritten(t, thing{kind: aWhole, whole: n})
	}
	for _, x := range fixes() {
		checkWritten(t, thing{kind: aFix, fix: x})
	}
}

// P12.1: counts have one byte to ten, and come to the next one at each power of 128.
func TestBytesOfACount(t *testing.T) {
	for size := 1; size < 10; size++ {
		first := uint64(1) << (7 * size)
		if got := len(written(t, thing{kind: aCount, count: first - 1})); got != size {
			t.Errorf("%d: %d bytes, want %d", first-1, got, size)
		}
		if got := len(written(t, thing{kind: aCount, count: first})); got != size+1 {
			t.Errorf("%d: %d bytes, want %d", first, got, size+1)
		}
	}
	if got := len(written(t, thing{kind: aCount, count: math.MaxUint64})); got != 10 {
		t.Errorf("the greatest: %d bytes", got)
	}
}

// P12.1: lists of none to many, about where their count gets another byte.
func TestListsWritten(t *testing.T) {
	r := shuffled(3)
	for _, n := range []int{0, 1, 2, 3, 50, 126, 127, 128, 129, 1000, 16383, 16384} {
		text, whole, fix := make([]byte, n), make([]int, n), make([]api.Fix, n)
		for i := range n {
			text[i], whole[i], fix[i] = byte(r.Uint32()), int(int64(r.Uint64())>>r.IntN(64)), api.Fix(r.Uint64())
		}
		checkWritten(t, thing{kind: aText, text: text})
		checkWritten(t, thing{kind: someWholes, wholes: whole})
		checkWritten(t, thing{kind: someFixes, fixes: fix})
	}
}

// P12.1: one thing behind the other, of all kinds.
func TestThingsWritten(t *testing.T) {
	r := shuffled(4)
	for range 1000 {
		checkWritten(t, someThings(r, r.IntN(9))...)
	}
}

// P12.1: Writer{} has written nothing; and it may be used at once, as a value too.
func TestNewWriter(t *testing.T) {
	checkWritten(t)
	var w pack.Writer
	w.Int(-1)
	if b, e := w.Done(); e != api.OK || !bytes.Equal(b, []byte{1}) {
		t.Error(b, e)
	}
}

// P12.1: Done may be asked at any time, and twice; it ends nothing.
func TestDoneAskedOften(t *testing.T) {
	r := shuffled(5)
	w := &pack.Writer{}
	things := someThings(r, 40)
	for i, x := range things {
		for range 2 {
			if b, e := w.Done(); e != api.OK || !bytes.Equal(b, formOf(things[:i]...)) {
				t.Fatalf("behind %d: %x, %d", i, b, e)
			}
		}
		write(w, x)
	}
}

// P12.1: two writers know nothing of one another.
func TestTwoWriters(t *testing.T) {
	r := shuffled(6)
	var a, b pack.Writer
	first, second := someThings(r, 30), someThings(r, 30)
	for i := range 30 {
		write(&a, first[i])
		write(&b, second[i])
	}
	x, _ := a.Done()
	y, _ := b.Done()
	if !bytes.Equal(x, formOf(first...)) || !bytes.Equal(y, formOf(second...)) {
		t.Errorf("%x, %x", x, y)
	}
}

// P12.1: of a nil writer nothing is written, and Done is ErrNil, whatever comes.
func TestNilWriter(t *testing.T) {
	var w *pack.Writer
	for _, k := range knownForms() {
		write(w, k.thing)
		if b, e := w.Done(); len(b) != 0 || e != api.ErrNil {
			t.Fatal(b, e)
		}
	}
}
