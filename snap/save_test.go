package snap_test

import (
	"bytes"
	"encoding/hex"
	"math"
	"slices"
	"strings"
	"testing"

	"regatta/api"
)

// The chapter's example.
func TestExample(t *testing.T) {
	d, s := fresh(t, 1)
	checkSave(t, s, []byte("a"), 1, api.OK)
	if a, _ := d.Safe(3); string(a) != "a"+strings.Repeat("\x00", 127) {
		t.Fatalf("block 3: %q", a)
	}
	if head, _ := d.Safe(2); head[0] != 1 || head[120] != 1 {
		t.Fatalf("block 2: %q", head)
	}
	if !bytes.Equal(imageOf(d)[:256], make([]byte, 256)) {
		t.Fatal("blocks 0 and 1 were written")
	}
	ahead := imageOf(d)[256:]
	checkSave(t, s, []byte("b"), 2, api.OK)
	if b, _ := d.Safe(1); string(b) != "b"+strings.Repeat("\x00", 127) {
		t.Fatalf("block 1: %q", b)
	}
	if head, _ := d.Safe(0); head[0] != 2 || head[120] != 2 {
		t.Fatalf("block 0: %q", head)
	}
	if !bytes.Equal(imageOf(d)[256:], ahead) {
		t.Fatal("blocks 2 and 3 were written")
	}
	checkLoad(t, s, []byte("b"), 2, api.OK)
}

// P16.3: heads byte by byte, reckoned outside of the program.
func TestHeadBytes(t *testing.T) {
	counting := make([]byte, 200)
	for i := range counting {
		counting[i] = byte(i)
	}
	for _, x := range []struct {
		n     uint64
		text  string
		front string
		last  string
	}{
		{1, "a", "0100000000000000" + "0100000000000000" + "43beb7e8" + "589a23b2", "0100000000000000"},
		{2, "b", "0200000000000000" + "0100000000000000" + "f9efbe71" + "42ad2a5a", "0200000000000000"},
		{1, "", "0100000000000000" + "0000000000000000" + "00000000" + "cba0b26a", "0100000000000000"},
		{258, string(counting), "0201000000000000" + "c800000000000000" + "806108ed" + "56c07ff6", "0201000000000000"},
		{1 << 62, "last", "0000000000000040" + "0400000000000000" + "a0a9db4a" + "e9fa59de", "0000000000000040"},
	} {
		d, s := fresh(t, 2)
		if x.n > 2 {
			layText(t, d, int((x.n-1)%2)*3, x.n-1, "ahead")
		} else if x.n == 2 {
			checkSave(t, s, []byte("ahead"), 1, api.OK)
		}
		checkSave(t, s, []byte(x.text), int(x.n), api.OK)
		want, _ := hex.DecodeString(x.front + strings.Repeat("00", 96) + x.last)
		at := int(x.n%2) * 3
		if head, _ := d.Safe(at); !bytes.Equal(head, want) {
			t.Errorf("head of %d:\n%x, want\n%x", x.n, head, want)
		}
		if all := imageOf(d)[at*128+128:]; !bytes.HasPrefix(all, append([]byte(x.text), make([]byte, 256-len(x.text))...)) {
			t.Errorf("text of %d: %q", x.n, told(all))
		}
	}
}

// P16.3: texts of each length: what is written, over blocks of other bytes, and what stays as it was.
func TestSaveOfEachLength(t *testing.T) {
	r := shuffled(10)
	const at, room, blocks = 2, 3, 12
	for size := range room*128 + 1 {
		for n := 1; n <= 2; n++ {
			d := madeDisk(t, blocks)
			s := made(t, d, at, room)
			lay(t, d, 0, textOf(r, blocks*128))
			if n == 2 {
				checkSave(t, s, textOf(r, r.IntN(385)), 1, api.OK)
			}
			want := imageOf(d)
			text := textOf(r, size)
			checkSave(t, s, text, n, api.OK)
			head := (at + n%2*(1+room)) * 128
			copy(want[head:], headFor(uint64(n), text).block())
			whole := append(bytes.Clone(text), make([]byte, (385-size-1)%128)...)
			copy(want[head+128:], whole)
			if !bytes.Equal(imageOf(d), want) {
				t.Fatalf("%d bytes as the text %d: the blocks aren't as they must be", size, n)
			}
			if len(d.Under()) > 0 {
				t.Fatalf("%d bytes: under way %v", size, d.Under())
			}
			checkLoad(t, s, text, n, api.OK)
		}
	}
}

// P16.3: nothing may be kept, as no list and as an empty one; so may a text of noughts, which isn't nothing.
func TestSaveOfNothing(t *testing.T) {
	d, s := fresh(t, 1)
	checkSave(t, s, nil, 1, api.OK)
	checkLoad(t, s, nil, 1, api.OK)
	checkSave(t, s, []byte("text"), 2, api.OK)
	checkSave(t, s, []byte{}, 3, api.OK)
	checkLoad(t, s, nil, 3, api.OK)
	checkSave(t, s, nil, 4, api.OK)
	checkLoad(t, s, nil, 4, api.OK)
	for k, size := range []int{1, 2, 127, 128} {
		checkSave(t, s, make([]byte, size), 5+k, api.OK)
		checkLoad(t, s, make([]byte, size), 5+k, api.OK)
	}
	must(t, d.Crash(nil))
	checkLoad(t, s, make([]byte, 128), 8, api.OK)
}

// P16.3: a text of Room · BlockSize bytes has room, one of a byte more hasn't: nothing is written then.
func TestSaveRoom(t *testing.T) {
	for _, room := range []int{1, 2, 3, 10, 8191} {
		d, s := fresh(t, room)
		full := textOf(shuffled(11), room*128)
		checkSave(t, s, []byte("ahead"), 1, api.OK)
		image := imageOf(d)
		d.Arm(4)
		for _, size := range []int{room*128 + 1, room*128 + 2, room*128 + 128, room*128 + 129, 2*room*128 + 300} {
			checkSave(t, s, make([]byte, size), 0, api.ErrRoom)
		}
		if !bytes.Equal(imageOf(d), image) || len(d.Under()) > 0 {
			t.Fatal("what has no room changed a block")
		}
		d.Arm(-1)
		checkSave(t, s, full, 2, api.OK)
		checkLoad(t, s, full, 2, api.OK)
		checkSave(t, s, full[:len(full)-1], 3, api.OK)
		checkLoad(t, s, full[:len(full)-1], 3, api.OK)
		d.Arm(4)
		checkSave(t, s, append(full, 0), 0, api.ErrRoom)
		checkArmed(t, d, 4)
	}
}

// P16.3: what a Save does, call by call: the blocks of the text, rising; a flush; the head; a flush; and no other call.
func TestSaveCallByCall(t *testing.T) {
	for _, n := range []int{1, 2, 3} {
		for _, size := range []int{0, 1, 127, 128, 129, 256, 257, 500, 512} {
			text := textOf(shuffled(uint64(size)), size)
			pieces := (size + 127) / 128
			for armed := range pieces + 5 {
				d, s := fresh(t, 4)
				for k := 1; k < n; k++ {
					checkSave(t, s, textOf(shuffled(12), 512), k, api.OK)
				}
				was := imageOf(d)
				at := n % 2 * 5
				d.Arm(armed)
				var under []int
				for i := range min(armed+1, pieces) {
					under = append(under, at+1+i)
				}
				switch {
				case armed > pieces+2:
					checkSave(t, s, text, n, api.OK)
					checkArmed(t, d, armed-pieces-3)
					continue
				case armed > pieces:
					under = []int{at}
				}
				checkSave(t, s, text, 0, api.ErrDown)
				if !slices.Equal(d.Under(), under) {
					t.Fatalf("the text %d of %d bytes, armed with %d: under way %v, want %v", n, size, armed, d.Under(), under)
				}
				checkSafeText(t, model{d, 0, 4}, was, at, text, armed > pieces)
			}
		}
	}
}

// checkSafeText sees to it that all is safe that was, and the text besides, if it was flushed.
func checkSafeText(t *testing.T, m model, was []byte, at int, text []byte, flushed bool) {
	t.Helper()
	must(t, m.d.Crash(nil))
	want := bytes.Clone(was)
	if flushed {
		copy(want[at*128+128:], text)
		clear(want[at*128+128+len(text) : at*128+128+(len(text)+127)/128*128])
	}
	if !bytes.Equal(imageOf(m.d), want) {
		t.Fatalf("flushed %v: the blocks aren't as they must be", flushed)
	}
}

// P16.3: the numbers rise by one, each in the slot that it is mod 2; the other slot, and all that isn't the snap's, stays as it was.
func TestSlotsInTurn(t *testing.T) {
	r := shuffled(13)
	d := madeDisk(t, 9)
	s := made(t, d, 1, 2)
	lay(t, d, 0, textOf(r, 9*128))
	for n := 1; n <= 700; n++ {
		was := imageOf(d)
		text := textOf(r, r.IntN(257))
		checkSave(t, s, text, n, api.OK)
		now := imageOf(d)
		head := (1 + n%2*3) * 128
		copy(was[head:head+3*128], now[head:head+3*128])
		if !bytes.Equal(was, now) {
			t.Fatalf("the text %d changed blocks that aren't its slot's", n)
		}
		if !bytes.Equal(now[head:head+128], headFor(uint64(n), text).block()) {
			t.Fatalf("the head of the text %d: %x", n, now[head:head+128])
		}
		checkLoad(t, s, text, n, api.OK)
	}
}

// P16.3: the number is one more than Load's, whatever else the slots hold.
func TestSaveBehindWhatIsThere(t *testing.T) {
	for _, x := range []struct {
		even, odd uint64 // whole or not
		n         int
	}{
		{0, 0, 1}, {2, 0, 3}, {0, 1, 2}, {0, 3, 4}, {2, 1, 3}, {2, 3, 4}, {2, 99, 100}, {100, 1, 101}, {1, 2, 1}, {3, 0, 1}, {3, 5, 6},
		{1 << 32, 7, 1<<32 + 1}, {1<<62 + 2, 5, 6}, {4, 1<<62 + 1, 5}, {1 << 63, 1<<63 + 1, 1}, {math.MaxUint64 - 1, math.MaxUint64, 1}, {6, 1<<62 - 3, 1<<62 - 2}, {1<<62 - 2, 5, 1<<62 - 1}, {2, 1<<62 - 1, 1 << 62},
	} {
		d, s := fresh(t, 2)
		layText(t, d, 0, x.even, "even")
		layText(t, d, 3, x.odd, "odd")
		checkSave(t, s, []byte(long), x.n, api.OK)
		checkLoad(t, s, []byte(long), x.n, api.OK)
		must(t, d.Crash(nil))
		checkLoad(t, s, []byte(long), x.n, api.OK)
	}
}

// P16.3: 2^62 is the last number; behind it nothing is kept, and nothing changed.
func TestSaveTooBig(t *testing.T) {
	d, s := fresh(t, 1)
	layText(t, d, 2, 1<<62-1, "last but one")
	checkSave(t, s, []byte("last"), 1<<62, api.OK)
	checkLoad(t, s, []byte("last"), 1<<62, api.OK)
	image := imageOf(d)
	must(t, d.Write(2, []byte("under way")))
	d.Arm(2)
	for _, text := range []string{"", "more", strings.Repeat("f", 128)} {
		checkSave(t, s, []byte(text), 0, api.ErrBig)
	}
	if under := d.Under(); !slices.Equal(under, []int{2}) {
		t.Fatalf("under way: %v", under)
	}
	checkArmed(t, d, 2)
	must(t, d.Crash(nil))
	checkLoad(t, s, []byte("last"), 1<<62, api.OK)
	if now := imageOf(d); !bytes.Equal(now[:256], image[:256]) || !bytes.Equal(now[384:], image[384:]) {
		t.Fatal("what isn't kept changed a block")
	}
	d, s = fresh(t, 1)
	layText(t, d, 0, 1<<62, "alone")
	checkSave(t, s, nil, 0, api.ErrBig)
	checkLoad(t, s, []byte("alone"), 1<<62, api.OK)
}

// P16.3: which error comes first: the room, then the disk, then the number.
func TestOrderOfErrors(t *testing.T) {
	d, s := fresh(t, 1)
	layText(t, d, 0, 1<<62, "last")
	checkSave(t, s, make([]byte, 129), 0, api.ErrRoom)
	checkSave(t, s, make([]byte, 128), 0, api.ErrBig)
	d.Arm(0)
	checkSave(t, s, make([]byte, 129), 0, api.ErrRoom)
	checkSave(t, s, make([]byte, 128), 0, api.ErrBig)
	if d.Down() {
		t.Fatal("what was refused was asked of the disk")
	}
	d.Flush()
	for range 2 {
		checkSave(t, s, make([]byte, 129), 0, api.ErrRoom)
		checkSave(t, s, make([]byte, 128), 0, api.ErrDown)
		checkSave(t, s, nil, 0, api.ErrDown)
	}
	must(t, d.Crash(nil))
	checkLoad(t, s, []byte("last"), 1<<62, api.OK)
}

// P16.3: on a disk that is down nothing is kept, and nothing goes under way.
func TestSaveDown(t *testing.T) {
	for ahead := range 3 {
		d, s := fresh(t, 2)
		for k := range ahead {
			checkSave(t, s, []byte(long), k+1, api.OK)
		}
		must(t, d.Write(5, []byte("under way")))
		d.Arm(0)
		d.Flush()
		for _, text := range []string{"", "a", long} {
			checkSave(t, s, []byte(text), 0, api.ErrDown)
		}
		if !slices.Equal(d.Under(), []int{5}) {
			t.Fatalf("under way: %v", d.Under())
		}
		must(t, d.Crash(nil))
		checkSave(t, s, []byte("new"), ahead+1, api.OK)
		checkLoad(t, s, []byte("new"), ahead+1, api.OK)
	}
}

// P16.3: a Save flushes what was under way ahead of it too, with its text.
func TestSaveFlushesAll(t *testing.T) {
	d := madeDisk(t, 6)
	s := made(t, d, 0, 1)
	must(t, d.Write(5, []byte("other")))
	d.Arm(2)
	checkSave(t, s, []byte("text"), 0, api.ErrDown)
	must(t, d.Crash(nil))
	if b, _ := d.Safe(5); !bytes.HasPrefix(b, []byte("other\x00")) {
		t.Fatalf("%q", b)
	}
}

// Two snaps beside one another, each with its numbers and texts.
func TestTwoSnaps(t *testing.T) {
	r := shuffled(14)
	d := madeDisk(t, 12)
	a, b := made(t, d, 1, 1), made(t, d, 5, 2)
	lay(t, d, 0, bytes.Repeat([]byte{0xee}, 12*128))
	checkSave(t, a, []byte("a"), 1, api.OK)
	checkLoad(t, b, nil, 0, api.ErrNone)
	checkSave(t, b, []byte("b"), 1, api.OK)
	texts, counts := [2][]byte{[]byte("a"), []byte("b")}, [2]int{1, 1}
	for range 500 {
		which := r.IntN(2)
		counts[which]++
		texts[which] = textOf(r, r.IntN(128*(1+which)+1))
		if which == 0 {
			checkSave(t, a, texts[0], counts[0], api.OK)
		} else {
			checkSave(t, b, texts[1], counts[1], api.OK)
		}
		checkLoad(t, a, texts[0], counts[0], api.OK)
		checkLoad(t, b, texts[1], counts[1], api.OK)
	}
	for _, i := range []int{0, 11} {
		if x, _ := d.Read(i); !bytes.Equal(x, bytes.Repeat([]byte{0xee}, 128)) {
			t.Fatalf("block %d: %q", i, x)
		}
	}
}

// Two snaps beside one another, of which one falls in a Save: the other one stays as it was.
func TestTwoSnapsFall(t *testing.T) {
	for armed := range 5 {
		for _, fate := range []api.Fate{lost(), kept(), torn(5), torn(100), torn(123)} {
			d := madeDisk(t, 10)
			a, b := made(t, d, 0, 1), made(t, d, 4, 2)
			checkSave(t, a, []byte("a"), 1, api.OK)
			checkSave(t, b, []byte("b"), 1, api.OK)
			d.Arm(armed)
			checkSave(t, b, []byte(long), 0, api.ErrDown)
			checkLoad(t, a, nil, 0, api.ErrDown)
			checkSave(t, a, []byte("a"), 0, api.ErrDown)
			must(t, d.Crash([]api.Fate{fate, fate}))
			checkLoad(t, a, []byte("a"), 1, api.OK)
			checkSave(t, a, []byte("more"), 2, api.OK)
			checkLoad(t, a, []byte("more"), 2, api.OK)
		}
	}
}
