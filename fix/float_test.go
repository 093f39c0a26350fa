package fix_test

import (
	"math"
	"math/big"
	"testing"

	"regatta/api"
	"regatta/fix"
)

const step = 1.0 / (1 << 32)

// P2.5
func TestFromFloatByHand(t *testing.T) {
	cases := []struct {
		f    float64
		want result
	}{
		{0, result{0, false}},
		{math.Copysign(0, -1), result{0, false}},
		{1, result{one, false}},
		{-0.5, result{-1 << 31, false}},
		{0.1, result{429496730, false}},
		{math.Inf(1), result{top, true}},
		{math.Inf(-1), result{low, true}},
		{math.MaxFloat64, result{top, true}},
		{-math.MaxFloat64, result{low, true}},
		{1 << 40, result{top, true}},
		{-1 << 40, result{low, true}},
		{1 << 31, result{top, true}},
		{-1 << 31, result{low, false}},
		{math.Nextafter(1<<31, 0), result{1<<63 - 1<<10, false}},
		{math.Nextafter(-1<<31, 0), result{-1<<63 + 1<<10, false}},
		{math.Nextafter(-1<<31, -1<<32), result{low, true}},
		{math.SmallestNonzeroFloat64, result{0, false}},
		{-math.SmallestNonzeroFloat64, result{0, false}},
		{0x1p-1022, result{0, false}},
		{0x1p-1023, result{0, false}},
		{step, result{1, false}},
		{-step, result{-1, false}},
		{0.5 * step, result{0, false}},
		{-0.5 * step, result{0, false}},
		{1.5 * step, result{2, false}},
		{-1.5 * step, result{-2, false}},
		{2.5 * step, result{2, false}},
		{math.Nextafter(0.5*step, 1), result{1, false}},
		{math.Nextafter(0.5*step, 0), result{0, false}},
		{math.Nextafter(-0.5*step, -1), result{-1, false}},
		{math.Nextafter(2.5*step, 1), result{3, false}},
		{math.Nextafter(1.5*step, 0), result{1, false}},
	}
	for _, c := range cases {
		x, over, e := fix.FromFloat(c.f)
		if pair(x, over) != c.want || e != api.OK {
			t.Errorf("FromFloat(%g) = %d, %t, %d, want %v", c.f, x, over, e, c.want)
		}
	}
}

// P2.5
func TestFromFloatOfWhatIsNoNumber(t *testing.T) {
	for _, b := range []uint64{0x7ff8000000000001, 0x7ff0000000000001, 0xfff0000000000001, 0xffffffffffffffff, 0x7fffffffffffffff, 0xfff8000000000000} {
		if x, over, e := fix.FromFloat(math.Float64frombits(b)); x != 0 || over || e != api.ErrNaN {
			t.Errorf("FromFloat(bits %x) = %d, %t, %d", b, x, over, e)
		}
	}
}

// P2.5
func TestFromFloat(t *testing.T) {
	m := mixed(2)
	for exponent := range 2047 {
		for range 8 {
			fraction := m.Uint64() >> 12
			for _, b := range []uint64{fraction, 0, 1<<52 - 1, fraction << 30 & (1<<52 - 1)} {
				checkFromFloat(t, math.Float64frombits(uint64(exponent)<<52|b))
				checkFromFloat(t, math.Float64frombits(1<<63|uint64(exponent)<<52|b))
			}
		}
	}
}

func checkFromFloat(t *testing.T, f float64) {
	t.Helper()
	want, wantOver := heldOf(new(big.Rat).SetFloat64(f))
	got, over, e := fix.FromFloat(f)
	if e != api.OK {
		t.Fatalf("FromFloat(%g): error %d", f, e)
	}
	checkHeld(t, got, over, want, wantOver, "FromFloat", f)
}

// P2.6
func TestFloatByHand(t *testing.T) {
	cases := []struct {
		a    api.Fix
		want float64
	}{
		{0, 0},
		{one, 1},
		{-half, -0.5},
		{1, step},
		{-1, -step},
		{top, 1 << 31},
		{low, -1 << 31},
		{1<<53 - 1, (1<<53 - 1) * step},
		// Halfway between two floats, the even one below and above, on both sides of 0.
		{1<<53 + 1, (1 << 53) * step},
		{1<<53 + 3, (1<<53 + 4) * step},
		{-1<<53 - 1, -(1 << 53) * step},
		{-1<<53 - 3, -(1<<53 + 4) * step},
		{1<<62 + 512, (1 << 62) * step},
		{1<<62 + 1536, (1<<62 + 2048) * step},
		{-1<<62 - 512, -(1 << 62) * step},
		{-1<<62 - 1536, -(1<<62 + 2048) * step},
		{1<<63 - 512, 1 << 31},
		{-1<<63 + 512, -1 << 31},
		// A step beside halfway.
		{1<<62 + 511, (1 << 62) * step},
		{1<<62 + 513, (1<<62 + 1024) * step},
		{1<<62 + 1535, (1<<62 + 1024) * step},
		{1<<62 + 1537, (1<<62 + 2048) * step},
		{-1<<62 - 513, -(1<<62 + 1024) * step},
		{1<<63 - 513, (1<<63 - 1024) * step},
	}
	for _, c := range cases {
		if got := fix.Float(c.a); math.Float64bits(got) != math.Float64bits(c.want) {
			t.Errorf("Float(%d) = %b, want %b", c.a, got, c.want)
		}
	}
	if math.Signbit(fix.Float(0)) {
		t.Error("Float(0) has a sign")
	}
}

// P2.6
func TestFloat(t *testing.T) {
	for _, a := range fixes() {
		want, _ := valueOf(a).Float64() // the nearest, of two the one whose last bit is 0
		if got := fix.Float(a); math.Float64bits(got) != math.Float64bits(want) {
			t.Errorf("Float(%d) = %b, want %b", a, got, want)
		}
	}
}

// P2.5, P2.6: a number of at most 53 bits comes back.
func TestFloatAndBack(t *testing.T) {
	m := mixed(3)
	for n := range 53 {
		a := api.Fix(m.Uint64() >> (11 + n))
		for _, b := range []api.Fix{a, -a} {
			if x, over, e := fix.FromFloat(fix.Float(b)); x != b || over || e != api.OK {
				t.Errorf("FromFloat(Float(%d)) = %d, %t, %d", b, x, over, e)
			}
		}
	}
}
