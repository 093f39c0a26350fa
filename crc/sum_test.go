package crc_test

import (
	"hash/crc32"
	"slices"
	"testing"

	"regatta/crc"
)

// checkText holds the sum of a text against both models, by Of and by More.
func checkText(t *testing.T, b []byte) {
	t.Helper()
	want := modelOf(b)
	if d := divided(b); d != want {
		t.Fatalf("%v: the models are unlike: %d, %d", b, want, d)
	}
	if got := crc.Of(b); got != want {
		t.Fatalf("Of(%v): %d, want %d", b, got, want)
	}
	if got := crc.More(0, b); got != want {
		t.Fatalf("More(0, %v): %d, want %d", b, got, want)
	}
}

// P11.1: the chapter's examples.
func TestExamples(t *testing.T) {
	if got := crc.Of([]byte("123456789")); got != 3421780262 {
		t.Error(got)
	}
	if got := crc.Of(); got != 0 {
		t.Error(got)
	}
}

// rising are n bytes, each one more than the one ahead, with 0 behind 255.
func rising(n int) []byte {
	out := make([]byte, n)
	for i := range out {
		out[i] = byte(i)
	}
	return out
}

// full is a text of n bytes that are all alike.
func full(n int, x byte) []byte { return slices.Repeat([]byte{x}, n) }

// P11.1: sums that were reckoned outside of the program.
func TestSumsByHand(t *testing.T) {
	for _, c := range []struct {
		text []byte
		sum  uint32
	}{
		{[]byte{}, 0},
		{[]byte{0}, 3523407757},
		{[]byte{255}, 4278190080},
		{[]byte("a"), 3904355907},
		{[]byte("abc"), 891568578},
		{full(32, 0), 420107693},
		{full(32, 255), 4285311755},
		{[]byte("The quick brown fox jumps over the lazy dog"), 1095738169},
		{rising(256), 688229491},
		{rising(768), 2965430058},
	} {
		if got := crc.Of(c.text); got != c.sum {
			t.Errorf("%q: %d, want %d", c.text, got, c.sum)
		}
		checkText(t, c.text)
	}
}

// P11.1: each text of one byte, and each of two.
func TestShortTexts(t *testing.T) {
	checkText(t, nil)
	for x := range 256 {
		checkText(t, []byte{byte(x)})
		for y := range 256 {
			b := []byte{byte(x), byte(y)}
			if got, want := crc.Of(b), modelOf(b); got != want {
				t.Fatalf("Of(%v): %d, want %d", b, got, want)
			}
		}
	}
}

// P11.1
func TestTextsOfAllLengths(t *testing.T) {
	r := shuffled(3)
	for n := range 700 {
		checkText(t, textOf(r, n))
	}
}

// P11.1: as long as a text may be that is packed, and longer.
func TestLongTexts(t *testing.T) {
	r := shuffled(4)
	for _, n := range []int{65536, 1 << 20, 1<<20 + 1, 3 << 20} {
		b := textOf(r, n)
		if got, want := crc.Of(b), crc32.ChecksumIEEE(b); got != want {
			t.Errorf("%d bytes: %d, want %d", n, got, want)
		}
	}
}

// checkParts holds the sum of parts against that of all of them as one text.
func checkParts(t *testing.T, parts [][]byte) {
	t.Helper()
	want := modelOf(slices.Concat(parts...))
	if got := crc.Of(parts...); got != want {
		t.Fatalf("Of(%v): %d, want %d", parts, got, want)
	}
	sum := uint32(0)
	for _, p := range parts {
		sum = crc.More(sum, p)
	}
	if sum != want {
		t.Fatalf("More, of %v one by one: %d, want %d", parts, sum, want)
	}
}

// P11.1: no part, and parts that have no byte, alone and among others.
func TestPartsOfNoByte(t *testing.T) {
	a, b := []byte("ab"), []byte{0}
	for _, parts := range [][][]byte{
		nil, {}, {nil}, {{}}, {nil, nil}, {nil, {}, nil}, {{}, {}},
		{a}, {nil, a}, {a, nil}, {{}, a}, {a, {}}, {nil, a, {}, b, nil, {}},
		{b}, {b, nil, b}, {nil, b}, {b, {}, a}, {a, a, a}, {b, b, b, b},
	} {
		checkParts(t, parts)
	}
}

// P11.1: a text that is cut at each place, at each two places, and at any.
func TestCutTexts(t *testing.T) {
	r := shuffled(5)
	for range 20 {
		text := textOf(r, 40)
		for i := range len(text) + 1 {
			checkParts(t, cut(text, i))
			for k := i; k <= len(text); k++ {
				checkParts(t, cut(text, i, k))
			}
		}
	}
	for range 2000 {
		text := textOf(r, r.IntN(300))
		checkParts(t, cut(text, placesOf(r, text, r.IntN(20))...))
	}
}

// P11.1: as many parts as there are bytes, and more.
func TestManyParts(t *testing.T) {
	text := textOf(shuffled(6), 50000)
	var parts [][]byte
	for i := range text {
		parts = append(parts, text[i:i+1], nil)
	}
	checkParts(t, parts)
}

// P11.1: the parts are one behind the other in the order in which they come.
func TestOrderOfParts(t *testing.T) {
	a, b := []byte("ab"), []byte("c")
	if crc.Of(a, b) == crc.Of(b, a) || crc.Of(a, b) != crc.Of([]byte("abc")) || crc.Of(b, a) != crc.Of([]byte("cab")) {
		t.Error(crc.Of(a, b), crc.Of(b, a))
	}
}

// P11.1: from numbers that were not sums; reckoned outside of the program.
func TestMoreByHand(t *testing.T) {
	for _, c := range []struct{ from, none, nought, ones, digits, all uint32 }{
		{0, 0, 3523407757, 4278190080, 3421780262, 688229491},
		{1, 1, 2768625435, 2282172566, 3700370789, 3879140792},
		{4294967295, 4294967295, 4294967295, 3539800178, 3523400311, 3681351380},
		{305419896, 305419896, 2362319573, 2714553688, 32800891, 2224052621},
		{2147483648, 2147483648, 3531796365, 4286578688, 3578015230, 3309433698},
	} {
		got := []uint32{crc.More(c.from, nil), crc.More(c.from, []byte{0}), crc.More(c.from, []byte{255}), crc.More(c.from, []byte("123456789")), crc.More(c.from, rising(256))}
		if want := []uint32{c.none, c.nought, c.ones, c.digits, c.all}; !slices.Equal(got, want) {
			t.Errorf("from %d: %v, want %v", c.from, got, want)
		}
	}
}

func checkMore(t *testing.T, sum uint32, b []byte) uint32 {
	t.Helper()
	got := crc.More(sum, b)
	if want := modelMore(sum, b); got != want {
		t.Fatalf("More(%d, %v): %d, want %d", sum, b, got, want)
	}
	return got
}

// P11.1: from any number, by no byte, by each one, and by many.
func TestMoreOfAnyNumber(t *testing.T) {
	r := shuffled(7)
	for _, sum := range numbers() {
		if crc.More(sum, nil) != sum || crc.More(sum, []byte{}) != sum {
			t.Errorf("%d: no byte changes it", sum)
		}
		for x := range 256 {
			checkMore(t, sum, []byte{byte(x)})
		}
		for range 20 {
			checkMore(t, sum, textOf(r, r.IntN(400)))
		}
	}
}

// P11.1: one behind the other, from any number, each from what the one ahead answered.
func TestMoreBehindMore(t *testing.T) {
	r := shuffled(8)
	for _, first := range numbers() {
		sum := first
		var all []byte
		for range 10 {
			b := textOf(r, r.IntN(30))
			sum = checkMore(t, sum, b)
			all = append(all, b...)
		}
		if got := crc.More(first, all); got != sum {
			t.Fatalf("from %d: %d at once, %d by and by", first, got, sum)
		}
	}
}

// P11.1: More goes on where Of ended.
func TestMoreBehindOf(t *testing.T) {
	text := textOf(shuffled(9), 300)
	want := modelOf(text)
	for i := range len(text) + 1 {
		if got := crc.More(crc.Of(text[:i]), text[i:]); got != want {
			t.Fatalf("cut at %d: %d, want %d", i, got, want)
		}
	}
}
