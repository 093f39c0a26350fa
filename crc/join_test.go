package crc_test

import (
	"math"
	"testing"

	"regatta/api"
	"regatta/crc"
)

const most = math.MaxInt32 // the greatest n that may be

func checkJoin(t *testing.T, a, b uint32, n int, want uint32) {
	t.Helper()
	if got, e := crc.Join(a, b, n); got != want || e != api.OK {
		t.Fatalf("Join(%d, %d, %d): %d, %d, want %d", a, b, n, got, e, want)
	}
}

// joined is what Join answers where it has no error.
func joined(t *testing.T, a, b uint32, n int) uint32 {
	t.Helper()
	sum, e := crc.Join(a, b, n)
	if e != api.OK {
		t.Fatalf("Join(%d, %d, %d): %d", a, b, n, e)
	}
	return sum
}

// P11.2: an n that may not be; among them some whose lowest bits alone would do.
func TestJoinRefused(t *testing.T) {
	past := most
	for _, n := range []int{-1, -2, -8, -most, -most - 1, math.MinInt, math.MinInt + 1, past + 1, past + 2, past + 9, 2*past + 1, 2*past + 2, 2*past + 3, 3 * past, 1 << 40, math.MaxInt - 1, math.MaxInt} {
		for _, a := range numbers() {
			for _, b := range []uint32{0, 1, a, ^a, math.MaxUint32} {
				if got, e := crc.Join(a, b, n); got != 0 || e != api.ErrArg {
					t.Fatalf("Join(%d, %d, %d): %d, %d", a, b, n, got, e)
				}
			}
		}
	}
}

// P11.2: the sums of two texts, each text cut at each of its places.
func TestJoinOfTexts(t *testing.T) {
	r := shuffled(20)
	for range 40 {
		text := textOf(r, r.IntN(300))
		want := modelOf(text)
		for i := range len(text) + 1 {
			checkJoin(t, crc.Of(text[:i]), crc.Of(text[i:]), len(text)-i, want)
		}
	}
}

// P11.2: texts of no byte, ahead and behind.
func TestJoinOfNoByte(t *testing.T) {
	r := shuffled(21)
	checkJoin(t, crc.Of(), crc.Of(), 0, 0)
	for n := range 100 {
		text := textOf(r, n)
		checkJoin(t, crc.Of(text), crc.Of(), 0, modelOf(text))
		checkJoin(t, crc.Of(), crc.Of(text), n, modelOf(text))
	}
}

// P11.2: several texts, joined from the front and from the back.
func TestJoinOfSeveral(t *testing.T) {
	r := shuffled(22)
	for range 500 {
		text := textOf(r, r.IntN(400))
		parts := cut(text, placesOf(r, text, r.IntN(8))...)
		front, back, behind := uint32(0), uint32(0), 0
		for i := range parts {
			front = joined(t, front, crc.Of(parts[i]), len(parts[i]))
			back = joined(t, crc.Of(parts[len(parts)-1-i]), back, behind)
			behind += len(parts[len(parts)-1-i])
		}
		if want := modelOf(text); front != want || back != want {
			t.Fatalf("%v: %d from the front, %d from the back, want %d", parts, front, back, want)
		}
	}
}

// P11.2: any numbers, by each n up to some hundreds, and by some thousands.
func TestJoinOfAnyNumbers(t *testing.T) {
	all := numbers()
	for i, a := range all {
		b := all[len(all)-1-i]
		checkJoin(t, a, b, 0, a^b)
		for n := range 300 {
			checkJoin(t, a, b, n, modelJoin(a, b, n))
		}
		for _, n := range []int{1023, 1024, 4095, 4097, 9999} {
			checkJoin(t, a, b, n, modelJoin(a, b, n))
		}
	}
}

// P11.2: b is laid over, and nothing else becomes of it, however great n is.
func TestJoinLaysOver(t *testing.T) {
	for _, n := range []int{0, 1, 2, 77, 1 << 20, most - 1, most} {
		for _, x := range numbers() {
			checkJoin(t, 0, x, n, x)
			a := joined(t, x, 0, n)
			for _, b := range []uint32{1, x, ^x, math.MaxUint32} {
				checkJoin(t, x, b, n, a^b)
			}
		}
	}
}

// P11.2: texts behind which so many noughts stand; reckoned outside of the program.
func TestJoinByHand(t *testing.T) {
	for _, c := range []struct {
		n                    int
		noughts, digits, one uint32
	}{
		{65536, 3617033963, 2085408073, 3519114827},
		{1<<24 + 1, 1152334754, 3151478045, 3386779789},
		{1 << 29, 1840808736, 138583987, 4099661601},
		{1 << 30, 1533330096, 2216775641, 4197314448},
		{most - 1, 4133369382, 414758442, 16331350},
		{most, 16331846, 161586925, 1342890622},
	} {
		checkJoin(t, crc.Of(), c.noughts, c.n, c.noughts)
		checkJoin(t, crc.Of([]byte("123456789")), c.noughts, c.n, c.digits)
		checkJoin(t, crc.Of([]byte("a")), c.noughts, c.n, c.one)
	}
}

// P11.2: n at once is n in two goes. With n = 1, which the model tells, that says what each n leads to.
func TestJoinInTwoGoes(t *testing.T) {
	r := shuffled(23)
	for _, a := range numbers() {
		for k := range 30 {
			n := 1 << k
			checkJoin(t, a, 0, 2*n-1, joined(t, joined(t, a, 0, n), 0, n-1))
			checkJoin(t, a, 0, n, joined(t, joined(t, a, 0, n/2), 0, n-n/2))
		}
		for range 50 {
			n := r.IntN(most) + 1
			first := r.IntN(n + 1)
			checkJoin(t, a, 0, n, joined(t, joined(t, a, 0, first), 0, n-first))
		}
		checkJoin(t, a, 0, most, joined(t, joined(t, a, 0, most-1), 0, 1))
	}
}

// P11.2: a register comes back to what it was by 2^32 - 1 bits of nought, so that 2^29 bytes are one bit further, and 2^31 - 1 bytes four bits back.
func TestJoinAllTheWayRound(t *testing.T) {
	for _, a := range numbers() {
		checkJoin(t, a, 0, 1<<29, next(a, 0))
		back := joined(t, a, 0, most)
		for range 4 {
			back = next(back, 0)
		}
		if back != a {
			t.Fatalf("%d comes back as %d", a, back)
		}
	}
}
