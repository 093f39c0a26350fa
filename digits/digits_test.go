package digits_test

import (
	"math"
	"math/big"
	"strings"
	"testing"

	"regatta/api"
	"regatta/digits"
)

const (
	step = "0.00000000023283064365386962890625"             // 2^-32
	half = "0.000000000116415321826934814453125"            // 2^-33
	last = "2147483647.99999999976716935634613037109375"    // the greatest number of steps
	next = "2147483647.9999999998835846781730651855468750"  // halfway from it to what is beyond
	near = "2147483647.9999999998835846781730651855468749"  // just this side of halfway
	deep = "-2147483648.0000000001164153218269348144531250" // halfway from the least one to what is beyond
	over = "-2147483648.0000000001164153218269348144531251" // just that side of halfway
)

// read is what Parse answers.
type read struct {
	x    api.Fix
	held bool
	e    api.Errno
}

func parse(s string) read {
	x, held, e := digits.Parse(s)
	return read{x, held, e}
}

func checkParse(t *testing.T, s string, want read) {
	t.Helper()
	if got := parse(s); got != want {
		t.Errorf("Parse(%q) = %v, want %v", s, got, want)
	}
}

// told is what Int answers.
type told struct {
	n int
	e api.Errno
}

func whole(s string) told {
	n, e := digits.Int(s)
	return told{n, e}
}

func checkInt(t *testing.T, s string, want told) {
	t.Helper()
	if got := whole(s); got != want {
		t.Errorf("Int(%q) = %v, want %v", s, got, want)
	}
}

// P3.1
func TestTextByHand(t *testing.T) {
	for _, c := range []struct {
		a    api.Fix
		want string
	}{
		{0, "0"},
		{1, step},
		{-1, "-" + step},
		{2, "0.0000000004656612873077392578125"},
		{api.One - 1, "0.99999999976716935634613037109375"},
		{1 - api.One, "-0.99999999976716935634613037109375"},
		{api.One, "1"},
		{-api.One, "-1"},
		{api.One + 1, "1.00000000023283064365386962890625"},
		{-api.One - 1, "-1.00000000023283064365386962890625"},
		{api.One / 2, "0.5"},
		{-api.One / 2, "-0.5"},
		{3 * api.One / 2, "1.5"},
		{10 * api.One, "10"},
		{-1000 * api.One, "-1000"},
		{10*api.One + api.One/16, "10.0625"},
		{api.MaxFix, last},
		{api.MaxFix - api.One + 1, "2147483647"},
		{api.MinFix, "-2147483648"},
		{api.MinFix + 1, "-" + last},
	} {
		if got := digits.Text(c.a); got != c.want {
			t.Errorf("Text(%d) = %q, want %q", c.a, got, c.want)
		}
	}
}

// P3.1
func TestTextAgainstFractions(t *testing.T) {
	for _, n := range numbers() {
		got, want := digits.Text(api.Fix(n)), textOf(api.Fix(n))
		if got != want || !toldForm.MatchString(got) {
			t.Fatalf("Text(%d) = %q, want %q", n, got, want)
		}
	}
}

// P3.2
func TestParseByHand(t *testing.T) {
	for _, c := range []struct {
		s    string
		want api.Fix
	}{
		{"0", 0},
		{"-0", 0},
		{"0.0", 0},
		{"-0.0", 0},
		{"-0.000", 0},
		{"1", api.One},
		{"-1", -api.One},
		{"1.0", api.One},
		{"1.000000", api.One},
		{"10", 10 * api.One},
		{"-10.50", -21 * api.One / 2},
		{"0.5", api.One / 2},
		{"-0.5", -api.One / 2},
		{"0.1", 429496730},
		{"-0.1", -429496730},
		{"0.2", 858993459},
		{"1.05", api.One + 214748365},
		{step, 1},
		{"-" + step + "0000", -1},
		{last, api.MaxFix},
		{"-" + last, -api.MaxFix},
		{"-2147483648", api.MinFix},
		{"-2147483648.0", api.MinFix},
	} {
		checkParse(t, c.s, read{x: c.want})
	}
}

// P3.2
func TestParseHalfway(t *testing.T) {
	for _, c := range []struct {
		s    string
		want api.Fix
	}{
		{half, 0},
		{"-" + half, 0},
		{half + "0000000", 0},
		{half + "0000001", 1},
		{"-" + half + "0000001", -1},
		{"0.0000000001164153218269348144531249999999", 0},
		{"0.000000000349245965480804443359375", 2},
		{"-0.000000000349245965480804443359375", -2},
		{"0.0000000003492459654808044433593749", 1},
		{"0.000000000582076609134674072265625", 2},
		{"-0.000000000582076609134674072265625", -2},
		{"0.0000000005820766091346740722656250000001", 3},
		{"0.9999999998835846781730651855468750", api.One},
		{"0.9999999998835846781730651855468749", api.One - 1},
		{"7.9999999999999999999999999999999999999999", 8 * api.One},
	} {
		checkParse(t, c.s, read{x: c.want})
	}
}

// P3.2
func TestParseHalfwayEverywhere(t *testing.T) {
	steps := big.NewInt(int64(api.One))
	least := new(big.Rat).SetFrac(big.NewInt(1), new(big.Int).Exp(big.NewInt(10), big.NewInt(40), nil))
	for _, n := range numbers() {
		twice := new(big.Int).Mul(big.NewInt(n), big.NewInt(2))
		mid := new(big.Rat).SetFrac(twice.Add(twice, big.NewInt(1)), new(big.Int).Mul(steps, big.NewInt(2)))
		for _, side := range []*big.Rat{mid, new(big.Rat).Add(mid, least), new(big.Rat).Sub(mid, least)} {
			s := side.FloatString(40)
			checkParse(t, s, readOf(t, s))
		}
	}
}

// P3.2
func TestParseBeyondTheRange(t *testing.T) {
	for _, c := range []struct {
		s    string
		want read
	}{
		{near, read{x: api.MaxFix}},
		{next, read{x: api.MaxFix, held: true}},
		{"2147483648", read{x: api.MaxFix, held: true}},
		{"2147483648.0", read{x: api.MaxFix, held: true}},
		{"4294967296", read{x: api.MaxFix, held: true}},
		{"18446744073709551616", read{x: api.MaxFix, held: true}},
		{"99999999999999999999", read{x: api.MaxFix, held: true}},
		{deep, read{x: api.MinFix}},
		{over, read{x: api.MinFix, held: true}},
		{"-2147483649", read{x: api.MinFix, held: true}},
		{"-18446744073709551616", read{x: api.MinFix, held: true}},
		{"-99999999999999999999.9", read{x: api.MinFix, held: true}},
	} {
		checkParse(t, c.s, c.want)
	}
}

// P3.2
func TestParseLong(t *testing.T) {
	nines, noughts := strings.Repeat("9", 20), strings.Repeat("0", 39)
	for _, c := range []struct {
		s    string
		want read
	}{
		{nines, read{x: api.MaxFix, held: true}},
		{"-" + nines, read{x: api.MinFix, held: true}},
		{nines + "." + nines + nines, read{x: api.MaxFix, held: true}},
		{nines + "9", read{e: api.ErrLong}},
		{"-" + nines + "9", read{e: api.ErrLong}},
		{nines + "9.5", read{e: api.ErrLong}},
		{"1" + noughts, read{e: api.ErrLong}},
		{"0." + noughts + "1", read{}},
		{"-0." + noughts + "1", read{}},
		{"0." + nines + nines, read{x: api.One}},
		{"0." + noughts + "00", read{e: api.ErrLong}},
		{"-0." + noughts + "01", read{e: api.ErrLong}},
		{nines + "9." + noughts + "01", read{e: api.ErrLong}},
		{strings.Repeat("1", 1<<20), read{e: api.ErrLong}},
		{"0." + strings.Repeat("1", 1<<20), read{e: api.ErrLong}},
		// What is no text of a number is that first, however long it is.
		{nines + "9x", read{e: api.ErrText}},
		{nines + "9.", read{e: api.ErrText}},
		{"0" + nines + "9", read{e: api.ErrText}},
		{"0." + noughts + "01.", read{e: api.ErrText}},
		{strings.Repeat("1", 1<<20) + "-", read{e: api.ErrText}},
	} {
		checkParse(t, c.s, c.want)
	}
}

// noTexts are texts of neither a number nor a whole number.
func noTexts() []string {
	return []string{
		"", "-", ".", "-.", "00", "-00", "01", "-01", "007", "00.5", "-01.5", "1.", "-1.", "0.", ".5", "-.5", "1..2", "1.2.3", "..",
		"+1", "+", "--1", "1-", "1-1", "-+1", "- 1", "1.-5", "1.+5", "−1",
		" 1", "1 ", "1 000", "1_000", "1,5", "1'000", "\t1", "1\n", "1\x00", "\x00",
		"1e5", "1E5", "0x10", "0b1", "1.5e1", "a", "1a", "a1", "1.a", "1.5a", "1/2", "1:", "0/", "Inf", "-Inf", "NaN", "nil",
		"١", "1٢", "１", "1.５", "½", "1\xff", "\xff", "1.\x80", "\xb1",
	}
}

// P3.2
func TestParseNoText(t *testing.T) {
	for _, s := range noTexts() {
		checkParse(t, s, read{e: api.ErrText})
	}
}

// P3.3
func TestIntNoText(t *testing.T) {
	for _, s := range append(noTexts(), "-0", "0.0", "-0.0", "1.0", "1.5", "-1.5") {
		checkInt(t, s, told{e: api.ErrText})
	}
}

// shortTexts are all texts of up to most signs of a few.
func shortTexts(most int) []string {
	all := []string{""}
	for from := 0; most > 0; most-- {
		to := len(all)
		for _, s := range all[from:to] {
			for _, c := range "-+.0159 x" {
				all = append(all, s+string(c))
			}
		}
		from = to
	}
	return all
}

// P3.2, P3.3
func TestShortTexts(t *testing.T) {
	for _, s := range shortTexts(5) {
		checkParse(t, s, readOf(t, s))
		checkInt(t, s, intOf(t, s))
	}
}

// P3.2
func TestParseAgainstFractions(t *testing.T) {
	m := mixed(4)
	for i := range 20000 {
		s := digitsOf(m, 1+i%22)
		if i%3 == 0 {
			s = "0"
		}
		if i%5 > 0 {
			s += "." + strings.Repeat("0", i%7) + digitsOf(m, 1+m.IntN(40))
		}
		if i%2 == 0 {
			s = "-" + s
		}
		checkParse(t, s, readOf(t, s))
	}
}

// P3.3
func TestWholeAndIntByHand(t *testing.T) {
	for _, c := range []struct {
		n int
		s string
	}{
		{0, "0"},
		{1, "1"},
		{-1, "-1"},
		{9, "9"},
		{10, "10"},
		{-10, "-10"},
		{1048576, "1048576"},
		{math.MaxInt64 - 1, "9223372036854775806"},
		{math.MaxInt64, "9223372036854775807"},
		{math.MinInt64, "-9223372036854775808"},
		{math.MinInt64 + 1, "-9223372036854775807"},
	} {
		if got := digits.Whole(c.n); got != c.s {
			t.Errorf("Whole(%d) = %q, want %q", c.n, got, c.s)
		}
		checkInt(t, c.s, told{n: c.n})
	}
}

// P3.3
func TestIntTooBig(t *testing.T) {
	for _, s := range []string{
		"9223372036854775808", "-9223372036854775809", "9223372036854775810", "10000000000000000000", "-10000000000000000000",
		"18446744073709551615", "18446744073709551616", "18446744073709551617", "-18446744073709551616", "99999999999999999999",
		"100000000000000000000", "-100000000000000000000",
		"340282366920938463463374607431768211456", "340282366920938463463374607431768211457", "-340282366920938463463374607431768211455",
		strings.Repeat("1", 1<<20), "-" + strings.Repeat("9", 1<<20),
	} {
		checkInt(t, s, told{e: api.ErrBig})
	}
	// What is no whole number's text is that first, however great it is.
	checkInt(t, "09223372036854775808", told{e: api.ErrText})
	checkInt(t, "9223372036854775808.0", told{e: api.ErrText})
	checkInt(t, strings.Repeat("1", 1<<20)+"x", told{e: api.ErrText})
}

// P3.3
func TestIntAgainstBigNumbers(t *testing.T) {
	m := mixed(5)
	for i := range 20000 {
		s := digitsOf(m, 1+i%40)
		if i%2 == 0 {
			s = "-" + s
		}
		checkInt(t, s, intOf(t, s))
	}
}

// P3.4
func TestReadAgain(t *testing.T) {
	for _, n := range numbers() {
		checkParse(t, digits.Text(api.Fix(n)), read{x: api.Fix(n)})
		checkInt(t, digits.Whole(int(n)), told{n: int(n)})
		if !wholeForm.MatchString(digits.Whole(int(n))) {
			t.Errorf("Whole(%d) = %q", n, digits.Whole(int(n)))
		}
	}
	for i := range 1 << 16 {
		a := api.Fix(i - 1<<15)
		for _, x := range []api.Fix{a, a << 16, a << 32, a<<32 + 1, a<<48 - 1} {
			checkParse(t, digits.Text(x), read{x: x})
		}
	}
}
