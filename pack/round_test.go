package pack_test

import (
	"bytes"
	"math/rand/v2"
	"testing"

	"regatta/api"
	"regatta/pack"
)

// checkAny reads any bytes as things of these kinds, beside the model; what is read to the end without an error is written as the same bytes.
func checkAny(t *testing.T, b []byte, asked ...int) {
	t.Helper()
	r, m := pack.Read(b), &model{left: b}
	var things []thing
	for i, kind := range asked {
		got, want := read(r, kind), m.read(kind)
		if !same(got, want) || r.Error() != m.fault || r.Done() != m.done() {
			t.Fatalf("%x as %v, at %d: %+v, %d, %d, want %+v, %d, %d", b, asked, i, got, r.Error(), r.Done(), want, m.fault, m.done())
		}
		things = append(things, got)
	}
	if r.Done() != api.OK {
		return
	}
	if again := written(t, things...); !bytes.Equal(again, b) {
		t.Fatalf("%x as %v: written again %x", b, asked, again)
	}
}

// P12.2 to P12.4: all short texts of the bytes that matter, as each two kinds.
func TestShortTextsAsAnything(t *testing.T) {
	alphabet := []byte{0, 1, 2, 0x7f, 0x80, 0xff}
	texts := [][]byte{{}}
	for from := 0; len(texts[from]) < 5; from++ {
		for _, x := range alphabet {
			texts = append(texts, append(bytes.Clone(texts[from]), x))
		}
	}
	for _, b := range texts {
		for first := range kinds {
			for second := range kinds {
				checkAny(t, b, first, second)
			}
		}
	}
}

// P12.2, P12.4: all texts of one byte and of two, as each kind.
func TestAllBytesAsAnything(t *testing.T) {
	for x := range 256 {
		for kind := range kinds {
			checkAny(t, []byte{byte(x)}, kind)
			for y := range 256 {
				checkAny(t, []byte{byte(x), byte(y)}, kind)
			}
		}
	}
}

// junk is n bytes, of all kinds or mostly of those that matter.
func junk(r *rand.Rand, n int) []byte {
	out := make([]byte, n)
	kind := r.IntN(4)
	for i := range out {
		switch {
		case kind == 0:
			out[i] = byte(r.Uint32())
		case kind == 1:
			out[i] = byte(r.IntN(4))
		case kind == 2 && r.IntN(10) > 0:
			out[i] = 0x80 | byte(r.Uint32())
		default:
			out[i] = []byte{0, 1, 2, 3, 8, 0x7f, 0x80, 0x81, 0xff}[r.IntN(9)]
		}
	}
	return out
}

func anyKinds(r *rand.Rand, n int) []int {
	out := make([]int, n)
	for i := range out {
		out[i] = r.IntN(kinds)
	}
	return out
}

// P12.2 to P12.4: any bytes as any things.
func TestJunkAsAnything(t *testing.T) {
	r := shuffled(8)
	for range 60000 {
		checkAny(t, junk(r, r.IntN(40)), anyKinds(r, 1+r.IntN(6))...)
	}
}

// P12.2 to P12.4: right bytes of which one is changed, taken out or put in, as the things that they were, or as others.
func TestSpoiltAsAnything(t *testing.T) {
	r := shuffled(9)
	for range 20000 {
		things := someThings(r, 1+r.IntN(4))
		b := formOf(things...)
		at := r.IntN(len(b))
		switch r.IntN(3) {
		case 0:
			b[at] ^= 1 << r.IntN(8)
		case 1:
			b = append(b[:at:at], b[at+1:]...)
		default:
			b = append(append(b[:at:at], byte(r.Uint32())), b[at:]...)
		}
		asked := anyKinds(r, 5)
		if r.IntN(4) > 0 {
			asked = nil
			for _, x := range things {
				asked = append(asked, x.kind)
			}
		}
		checkAny(t, b, asked...)
	}
}

// checkCut reads the first bytes of what things were written as: each thing that is there whole is read, then it is at its end.
func checkCut(t *testing.T, b []byte, things []thing) {
	t.Helper()
	r := pack.Read(b)
	have, whole := 0, true
	for _, x := range things {
		have += len(formOf(x))
		whole = have <= len(b)
		want, e := x, api.OK
		if !whole {
			want, e = thing{kind: x.kind}, api.ErrEnd
		}
		if got := read(r, x.kind); !same(got, want) || r.Error() != e {
			t.Fatalf("%x: %+v, %d, want %+v", b, got, r.Error(), want)
		}
	}
	if whole {
		t.Fatal("nothing was cut off")
	}
	checkNothing(t, r, api.ErrEnd)
}

// P12.4: cut off anywhere it is ErrEnd.
func TestCutOffAnywhere(t *testing.T) {
	r := shuffled(10)
	for range 60 {
		things := someThings(r, 1+r.IntN(6))
		b := written(t, things...)
		for n := range b {
			checkCut(t, b[:n], things)
		}
	}
	for _, k := range knownForms() {
		b := written(t, k.thing)
		for n := range b {
			checkCut(t, b[:n], []thing{k.thing})
		}
	}
}

// checkRound writes things, and reads them again.
func checkRound(t *testing.T, things ...thing) {
	t.Helper()
	r := pack.Read(written(t, things...))
	for _, x := range things {
		if got := read(r, x.kind); !same(got, x) {
			t.Fatalf("%+v, was %+v", got, x)
		}
	}
	if r.Done() != api.OK {
		t.Fatal(r.Done())
	}
}

// P12.4: numbers are read again as they were, alone and as lists.
func TestNumbersThereAndBack(t *testing.T) {
	for _, n := range counts() {
		checkRound(t, thing{kind: aCount, count: n})
	}
	for _, n := range wholes() {
		checkRound(t, thing{kind: aWhole, whole: n})
	}
	for _, x := range fixes() {
		checkRound(t, thing{kind: aFix, fix: x})
	}
	checkRound(t, thing{kind: someWholes, wholes: wholes()}, thing{kind: someFixes, fixes: fixes()})
}

// P12.4: things of all kinds are read again as they were.
func TestThingsThereAndBack(t *testing.T) {
	r := shuffled(11)
	for range 2000 {
		checkRound(t, someThings(r, r.IntN(12))...)
	}
}

// P12.4: one form is one thing's alone: no two numbers have the same.
func TestFormsAreUnlike(t *testing.T) {
	seen := map[string]int{}
	for _, n := range wholes() {
		form := string(written(t, thing{kind: aWhole, whole: n}))
		if other, there := seen[form]; there && other != n {
			t.Fatalf("%d and %d: %x", n, other, form)
		}
		seen[form] = n
	}
}

// P12.2: never a panic, whatever comes: bytes that the fuzzer finds, as whatever things its second text names.
func FuzzRead(f *testing.F) {
	f.Add([]byte{0x80, 0, 5}, []byte{0, 1})
	f.Add([]byte{2, 1, 0, 0, 0, 0, 0, 0, 0}, []byte{5})
	for _, k := range knownForms() {
		f.Add(formOf(k.thing), []byte{byte(k.kind)})
	}
	f.Fuzz(func(t *testing.T, b, asked []byte) {
		var list []int
		for _, x := range asked {
			list = append(list, int(x)%kinds)
		}
		checkAny(t, b, list...)
	})
}
