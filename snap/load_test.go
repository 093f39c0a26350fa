package snap_test

import (
	"bytes"
	"fmt"
	"hash/crc32"
	"math"
	"strings"
	"testing"

	"regatta/api"
)

// long is a text of one block and a part of another.
var long = strings.Repeat("0123456789", 17)

// P16.2: no slot is whole on a new disk, nor on one of other bytes.
func TestLoadNone(t *testing.T) {
	for _, b := range [][]byte{nil, bytes.Repeat([]byte{0xff}, 6*128), bytes.Repeat([]byte{1}, 6*128), textOf(shuffled(2), 6*128)} {
		d, s := fresh(t, 2)
		lay(t, d, 0, b)
		checkLoad(t, s, nil, 0, api.ErrNone)
	}
}

// P16.2: one slot is whole: its text and its number are told, whatever lies in the other one.
func TestLoadOne(t *testing.T) {
	for _, junk := range [][]byte{nil, bytes.Repeat([]byte{0xff}, 6*128), textOf(shuffled(3), 6*128)} {
		for _, x := range []struct {
			n    int
			text string
		}{{1, "one"}, {2, "two"}, {1, ""}, {2, ""}, {7, long}, {1 << 40, long}, {1<<40 + 1, strings.Repeat("f", 256)}} {
			d, s := fresh(t, 2)
			lay(t, d, 0, junk)
			layText(t, d, x.n%2*3, uint64(x.n), x.text)
			checkLoad(t, s, []byte(x.text), x.n, api.OK)
		}
	}
}

// P16.2: both slots are whole: the greater number is told, as a number, whichever slot it is in.
func TestLoadTwo(t *testing.T) {
	for _, x := range []struct{ even, odd int }{
		{2, 1}, {2, 3}, {2, 99}, {100, 1}, {256, 255}, {256, 257}, {254, 255}, {1 << 32, 1<<32 - 1}, {1 << 32, 1<<32 + 1}, {1 << 32, 1}, {2, 1<<61 + 1}, {1 << 62, 1<<62 - 1}, {1<<62 - 2, 1<<62 - 1}, {1 << 62, 1},
	} {
		d, s := fresh(t, 2)
		layText(t, d, 0, uint64(x.even), "even")
		layText(t, d, 3, uint64(x.odd), "odd, "+long)
		if x.even > x.odd {
			checkLoad(t, s, []byte("even"), x.even, api.OK)
		} else {
			checkLoad(t, s, []byte("odd, "+long), x.odd, api.OK)
		}
	}
}

// P16.2: a head whose bits are turned one by one: each bit of its numbers and sums counts, none of those between.
func TestHeadSpoilt(t *testing.T) {
	for _, n := range []uint64{6, 7} {
		d, s := fresh(t, 2)
		at, other := int(n%2)*3, int((n+1)%2)*3
		layText(t, d, at, n, long)
		head, _ := d.Read(at)
		for bit := range 128 * 8 {
			spoilt := bytes.Clone(head)
			spoilt[bit/8] ^= 1 << (bit % 8)
			lay(t, d, at, spoilt)
			if bit/8 >= 24 && bit/8 < 120 {
				checkLoad(t, s, []byte(long), int(n), api.OK)
			} else {
				checkLoad(t, s, nil, 0, api.ErrNone)
			}
			layText(t, d, other, n-1, "other")
			if bit/8 >= 24 && bit/8 < 120 {
				checkLoad(t, s, []byte(long), int(n), api.OK)
			} else {
				checkLoad(t, s, []byte("other"), int(n-1), api.OK)
			}
			lay(t, d, other, make([]byte, 128))
		}
	}
}

// P16.2: a text whose bits are turned one by one: each counts, none behind its end.
func TestTextSpoilt(t *testing.T) {
	for _, n := range []uint64{8, 9} {
		for _, size := range []int{0, 1, 5, 127, 128, 129, 170, 256, 300} {
			d, s := fresh(t, 3)
			at := int(n%2) * 4
			text := long + long
			layText(t, d, at, n, text[:size])
			for bit := range 384 * 8 {
				i := at + 1 + bit/8/128
				was, _ := d.Read(i)
				spoilt := bytes.Clone(was)
				spoilt[bit/8%128] ^= 1 << (bit % 8)
				must(t, d.Write(i, spoilt))
				if bit/8 < size {
					checkLoad(t, s, nil, 0, api.ErrNone)
				} else {
					checkLoad(t, s, []byte(text[:size]), int(n), api.OK)
				}
				must(t, d.Write(i, was))
				must(t, d.Flush())
			}
		}
	}
}

// P16.2: what isn't looked at may hold anything: the bytes between a head's sums and its end, and those behind a text's.
func TestNotLookedAt(t *testing.T) {
	r := shuffled(4)
	for range 300 {
		d, s := fresh(t, 3)
		lay(t, d, 0, textOf(r, 8*128))
		n := 1 + r.IntN(1000)
		text := textOf(r, r.IntN(385))
		at := n % 2 * 4
		block := headFor(uint64(n), text).block()
		copy(block[24:120], textOf(r, 96))
		lay(t, d, at+1, textOf(r, 384))
		lay(t, d, at+1, append(bytes.Clone(text), textOf(r, (384-len(text))%128)...))
		lay(t, d, at, block)
		checkLoad(t, s, text, n, api.OK)
	}
}

// checkWhole lays a head to each of both slots of a snap of room 2, with the text behind it, and sees to it that it is whole just where it says.
func checkWhole(t *testing.T, c crafted, text string, inEven, inOdd bool) {
	t.Helper()
	for which, whole := range []bool{inEven, inOdd} {
		d, s := fresh(t, 2)
		lay(t, d, which*3+1, []byte(text))
		lay(t, d, which*3, c.block())
		if whole {
			checkLoad(t, s, []byte(text)[:c.length], int(c.number), api.OK)
		} else {
			checkLoad(t, s, nil, 0, api.ErrNone)
		}
	}
}

// P16.2: numbers from 1 to 2^62 are right, each in its own slot; 0, those below 0 and above 2^62 in none.
func TestNumbers(t *testing.T) {
	for _, n := range []uint64{1, 2, 3, 4, 255, 256, 257, 1<<16 - 1, 1 << 16, 1<<32 - 1, 1 << 32, 1<<32 + 1, 1<<61 + 1, 1<<62 - 2, 1<<62 - 1, 1 << 62} {
		checkWhole(t, headFor(n, []byte("text")), "text", n%2 == 0, n%2 == 1)
	}
	for _, n := range []uint64{0, 1<<62 + 1, 1<<62 + 2, 1<<62 + 3, 1 << 63, 1<<63 - 1, 1<<63 - 2, 1<<63 + 1, 1<<63 + 2, 3 << 62, math.MaxUint64, math.MaxUint64 - 1, math.MaxUint64 - 2} {
		checkWhole(t, headFor(n, []byte("text")), "text", false, false)
	}
}

// P16.2: the number must stand at both ends of the head's block, with all sums right.
func TestNumbersUnlike(t *testing.T) {
	for _, n := range []uint64{1, 2, 6, 7, 1 << 32, 1<<32 + 1, 1 << 62, 1<<62 - 1} {
		for bit := range 64 {
			c := headFor(n, []byte("text"))
			c.again ^= 1 << bit
			checkWhole(t, c, "text", false, false)
			c.number, c.again = c.again, c.number
			checkWhole(t, c, "text", false, false)
		}
		for _, other := range []uint64{0, n - 2, n + 2, n - 1, n + 1, -n} {
			c := headFor(n, []byte("text"))
			c.again = other
			checkWhole(t, c, "text", false, false)
			c.number, c.again = c.again, c.number
			checkWhole(t, c, "text", false, false)
		}
	}
}

// P16.2: lengths from 0 to Room · BlockSize are right; those below 0 and above that aren't, though all sums are.
func TestLengths(t *testing.T) {
	d, s := fresh(t, 2)
	text := textOf(shuffled(5), 384)
	lay(t, d, 1, text)
	for size := range 385 {
		c := headFor(4, text[:size])
		lay(t, d, 0, c.block())
		if size <= 256 {
			checkLoad(t, s, text[:size], 4, api.OK)
		} else {
			checkLoad(t, s, nil, 0, api.ErrNone)
		}
	}
	for _, n := range []uint64{1, 2} {
		for _, length := range []uint64{257, 384, 1 << 20, 1 << 31, 1<<31 - 1, 1 << 32, 1<<32 + 4, 1 << 62, 1 << 63, 1<<63 + 4, 1<<63 - 1, math.MaxUint64, math.MaxUint64 - 1, math.MaxUint64 - 255} {
			for _, sum := range []uint32{0, crc32.ChecksumIEEE([]byte("text"))} {
				c := crafted{number: n, length: length, textSum: sum, again: n}
				checkWhole(t, c, "text", false, false)
			}
		}
	}
}

// P16.2: a text that would reach into the other slot, or beyond the disk, isn't one, though its sum is right.
func TestTextBeyondItsSlot(t *testing.T) {
	d := madeDisk(t, 7)
	s := made(t, d, 0, 2)
	lay(t, d, 0, textOf(shuffled(6), 7*128))
	image := imageOf(d)
	for _, size := range []int{257, 300, 384} {
		lay(t, d, 0, headFor(2, image[128:128+size]).block())
		checkLoad(t, s, nil, 0, api.ErrNone)
	}
	lay(t, d, 0, image)
	for _, size := range []int{257, 300, 384} {
		lay(t, d, 3, headFor(3, image[512:512+size]).block())
		checkLoad(t, s, nil, 0, api.ErrNone)
	}
	d, s = fresh(t, 1)
	for _, size := range []int{129, 256, 1000} {
		text := bytes.Repeat([]byte("t"), size)
		lay(t, d, 3, text[:128])
		lay(t, d, 2, headFor(1, text).block())
		checkLoad(t, s, nil, 0, api.ErrNone)
	}
}

// P16.2: both sums must be right, each by itself, and the text's is that of its bytes alone.
func TestSums(t *testing.T) {
	for _, n := range []uint64{4, 5} {
		for bit := range 32 {
			c := headFor(n, []byte(long))
			c.turned = 1 << bit
			checkWhole(t, c, long, false, false)
			c = headFor(n, []byte(long))
			c.textSum ^= 1 << bit
			checkWhole(t, c, long, false, false)
		}
		c := headFor(n, []byte(long))
		c.turned = math.MaxUint32
		checkWhole(t, c, long, false, false)
		for _, other := range []string{"", long + "\x00", long[1:], long + strings.Repeat("\x00", 256-len(long))} {
			c := headFor(n, []byte(other))
			c.length = uint64(len(long))
			checkWhole(t, c, long, false, false)
		}
		checkWhole(t, crafted{number: n, again: n}, long, n%2 == 0, n%2 == 1)
		checkWhole(t, crafted{number: n, again: n, between: 0xa5}, "", n%2 == 0, n%2 == 1)
		c = headFor(n, []byte(long))
		c.length--
		checkWhole(t, c, long, false, false)
		c.length += 2
		checkWhole(t, c, long, false, false)
	}
}

// P16.2: where the slot with the greater number isn't whole, the other one is told, whatever that one lacks.
func TestLoadFallsBack(t *testing.T) {
	spoils := map[string]func(c *crafted){
		"number":   func(c *crafted) { c.number += 2 },
		"again":    func(c *crafted) { c.again += 2 },
		"length":   func(c *crafted) { c.length = 257 },
		"short":    func(c *crafted) { c.length-- },
		"text sum": func(c *crafted) { c.textSum++ },
		"head sum": func(c *crafted) { c.turned = 1 },
		"too big":  func(c *crafted) { c.number += 1 << 62; c.again = c.number },
		"below 0":  func(c *crafted) { c.number += 1 << 63; c.again = c.number },
		"not its":  func(c *crafted) { c.number++; c.again = c.number },
	}
	for _, n := range []uint64{2, 3, 500, 501} {
		for name, spoil := range spoils {
			t.Run(fmt.Sprint(n, name), func(t *testing.T) {
				d, s := fresh(t, 2)
				layText(t, d, int((n-1)%2)*3, n-1, "ahead")
				layText(t, d, int(n%2)*3, n, "behind")
				checkLoad(t, s, []byte("behind"), int(n), api.OK)
				c := headFor(n, []byte("behind"))
				spoil(&c)
				lay(t, d, int(n%2)*3, c.block())
				checkLoad(t, s, []byte("ahead"), int(n-1), api.OK)
			})
		}
	}
}

// P16.2: a disk that is down: its error, whatever lies on it.
func TestLoadDown(t *testing.T) {
	for kept := range 3 {
		d, s := fresh(t, 2)
		for k := range kept {
			checkSave(t, s, []byte(long), k+1, api.OK)
		}
		d.Arm(0)
		d.Flush()
		checkLoad(t, s, nil, 0, api.ErrDown)
		checkLoad(t, s, nil, 0, api.ErrDown)
		must(t, d.Crash(nil))
		if kept == 0 {
			checkLoad(t, s, nil, 0, api.ErrNone)
		} else {
			checkLoad(t, s, []byte(long), kept, api.OK)
		}
	}
}

// P16.2: what is read is what was written last, safe or not; and Load writes nothing, and flushes nothing.
func TestLoadOfWhatIsUnderWay(t *testing.T) {
	d, s := fresh(t, 1)
	layText(t, d, 2, 1, "safe")
	must(t, d.Write(0, headFor(2, []byte("under")).block()))
	checkLoad(t, s, []byte("safe"), 1, api.OK)
	must(t, d.Write(1, []byte("under")))
	d.Arm(3)
	checkLoad(t, s, []byte("under"), 2, api.OK)
	if under := d.Under(); len(under) != 2 || under[0] != 0 || under[1] != 1 {
		t.Fatalf("under way: %v", under)
	}
	must(t, d.Write(1, []byte("other")))
	checkLoad(t, s, []byte("safe"), 1, api.OK)
	checkArmed(t, d, 2)
	must(t, d.Crash([]api.Fate{kept()}))
	checkLoad(t, s, []byte("safe"), 1, api.OK)
	must(t, d.Write(1, []byte("under")))
	must(t, d.Crash([]api.Fate{kept()}))
	checkLoad(t, s, []byte("under"), 2, api.OK)
}
