package snap_test

import (
	"bytes"
	"fmt"
	"math"
	"math/rand/v2"
	"strings"
	"testing"

	"regatta/api"
	"regatta/disk"
	"regatta/snap"
)

// before is what a snap held ahead of a Save.
type before struct {
	text []byte
	n    int
}

// checkEither sees to it that a snap tells what it held ahead of a Save, or what was being kept, and answers which: whether it is the new one.
func checkEither(t *testing.T, s *snap.Snap, old before, text []byte) bool {
	t.Helper()
	if b, n, e := s.Load(); e == api.OK && n == old.n+1 && bytes.Equal(b, text) {
		return true
	}
	if old.n == 0 {
		checkLoad(t, s, nil, 0, api.ErrNone)
	} else {
		checkLoad(t, s, old.text, old.n, api.OK)
	}
	return false
}

// fatesFor are lists of fates for so many writes under way: all alike, each alone, and mixed; none, and too few.
func fatesFor(writes int) [][]api.Fate {
	list := [][]api.Fate{nil, {kept()}, {torn(64)}}
	kinds := []api.Fate{lost(), kept(), torn(0), torn(1), torn(5), torn(64), torn(120), torn(127), torn(128), torn(-1), torn(math.MaxInt), torn(math.MinInt), {Kind: 3, Bytes: 50}, {Kind: -1}, {Kind: math.MaxInt}}
	for _, f := range kinds {
		all := make([]api.Fate, writes)
		for k := range all {
			all[k] = f
		}
		list = append(list, all)
		for k := range all {
			alone, without := make([]api.Fate, writes), make([]api.Fate, writes)
			for i := range all {
				without[i] = kept()
			}
			alone[k], without[k] = f, f
			list = append(list, alone, without)
		}
	}
	return list
}

// P16.4: a disk that goes down at each of the calls of a Save, with each kind of fate for what is under way, behind none, one, two and three texts: the old one is told or the new one, and the next Save goes on from there.
func TestFallAtEachCall(t *testing.T) {
	r := shuffled(20)
	for ahead := range 4 {
		for _, size := range []int{0, 1, 128, 129, 300, 384} {
			calls := (size+127)/128 + 3
			for armed := range calls {
				for _, fates := range fatesFor((size + 127) / 128) {
					d, s := fresh(t, 3)
					var old before
					for k := range ahead {
						old = before{textOf(r, r.IntN(385)), k + 1}
						checkSave(t, s, old.text, old.n, api.OK)
					}
					text := textOf(r, size)
					d.Arm(armed)
					checkSave(t, s, text, 0, api.ErrDown)
					checkLoad(t, s, nil, 0, api.ErrDown)
					must(t, d.Crash(fates))
					isNew := checkEither(t, s, old, text)
					headKept := len(fates) > 0 && (fates[0].Kind == api.FKept || fates[0].Kind == api.FTorn && fates[0].Bytes > 120)
					if isNew != (armed >= calls-2 && headKept) {
						t.Fatalf("behind %d texts, %d bytes, armed with %d, %v: new %v", ahead, size, armed, fates, isNew)
					}
					checkGoesOn(t, d, s)
				}
			}
		}
	}
}

// checkGoesOn sees to it that the next Save is as ever.
func checkGoesOn(t *testing.T, d *disk.Disk, s *snap.Snap) {
	t.Helper()
	_, n, _ := s.Load()
	for k := 1; k <= 2; k++ {
		checkSave(t, s, []byte("goes on"), n+k, api.OK)
		must(t, d.Crash(nil))
		checkLoad(t, s, []byte("goes on"), n+k, api.OK)
	}
}

// P16.4: a head that is torn behind each number of bytes, at numbers of which one and more bytes change from one to the next in a slot.
func TestHeadTorn(t *testing.T) {
	for _, n := range []uint64{1, 2, 3, 4, 5, 255, 256, 257, 258, 511, 512, 513, 1<<16 - 1, 1 << 16, 1<<16 + 1, 1<<24 + 1, 1 << 32, 1<<32 + 1, 1<<48 + 1, 1 << 48, 1 << 56, 1<<56 + 1, 1<<61 + 1, 1<<62 - 1, 1 << 62} {
		for reached := range 130 {
			for armed := range 2 {
				d, s := fresh(t, 2)
				if n > 2 {
					layText(t, d, int(n%2)*3, n-2, "long ago")
				}
				var old before
				if n > 1 {
					old = before{[]byte("ahead"), int(n - 1)}
					layText(t, d, int((n-1)%2)*3, n-1, "ahead")
				}
				d.Arm(4 + armed - 1)
				checkSave(t, s, []byte(long), 0, api.ErrDown)
				must(t, d.Crash([]api.Fate{torn(reached)}))
				isNew := checkEither(t, s, old, []byte(long))
				if isNew && reached <= 120 || !isNew && reached >= 128 {
					t.Fatalf("the head %d, torn behind %d bytes: new %v", n, reached, isNew)
				}
				if n < 1<<62-2 {
					checkGoesOn(t, d, s)
				}
			}
		}
	}
}

// P16.4: a head that is torn twice, one number after the other or the same anew, behind any numbers of bytes.
func TestHeadTornTwice(t *testing.T) {
	places := []int{0, 1, 2, 3, 7, 8, 9, 12, 16, 18, 20, 22, 24, 60, 119, 120, 121, 122, 123, 127}
	for _, n := range []uint64{1, 2, 3, 256, 257, 1 << 16, 1<<32 + 1} {
		for _, first := range places {
			for _, second := range places {
				d, s := fresh(t, 2)
				var old before
				if n > 2 {
					layText(t, d, int(n%2)*3, n-2, "long ago")
				}
				if n > 1 {
					old = before{[]byte("ahead"), int(n - 1)}
					layText(t, d, int((n-1)%2)*3, n-1, "ahead")
				}
				for k, reached := range []int{first, second} {
					text := []byte(strings.Repeat(string(rune('a'+k)), 129+k))
					d.Arm(3)
					checkSave(t, s, text, 0, api.ErrDown)
					must(t, d.Crash([]api.Fate{torn(reached)}))
					if checkEither(t, s, old, text) {
						old = before{text, old.n + 1}
					}
				}
				checkGoesOn(t, d, s)
			}
		}
	}
}

// P16.4: any falls, one behind the other, with any fates: at each moment what is told was kept last, or was being kept.
func TestFallsAtRandom(t *testing.T) {
	r := shuffled(21)
	for range 400 {
		room := 1 + r.IntN(4)
		d, s := fresh(t, room)
		var old before
		for range 1 + r.IntN(60) {
			text := textOf(r, r.IntN(room*128+1))
			if r.IntN(4) == 0 {
				text = bytes.Clone(old.text)
			}
			d.Arm(r.IntN(room+5) - 1)
			n, e := s.Save(text)
			if e == api.OK && n != old.n+1 || e != api.OK && (n != 0 || e != api.ErrDown) {
				t.Fatalf("Save behind %d: %d, %d", old.n, n, e)
			}
			if e == api.OK {
				old = before{text, n}
				checkLoad(t, s, old.text, old.n, api.OK)
			}
			must(t, d.Crash(anyFates(r)))
			if e == api.OK {
				checkLoad(t, s, old.text, old.n, api.OK)
			} else if checkEither(t, s, old, text) {
				old = before{text, old.n + 1}
			}
		}
	}
}

// anyFates are some fates, of kinds that there aren't too.
func anyFates(r *rand.Rand) []api.Fate {
	var list []api.Fate
	for range r.IntN(7) {
		f := api.Fate{Kind: r.IntN(4), Bytes: r.IntN(140) - 5}
		if r.IntN(12) == 0 {
			f = api.Fate{Kind: int(r.Uint64()), Bytes: int(r.Uint64())}
		}
		list = append(list, f)
	}
	return list
}

// sameSum is another text with the same sum: its first bits are turned as the sum's polynomial goes.
func sameSum(text []byte) []byte {
	out := bytes.Clone(text)
	for _, power := range []int{32, 26, 23, 22, 16, 12, 11, 10, 8, 7, 5, 4, 2, 1, 0} {
		bit := 32 - power
		out[bit/8] ^= 1 << (bit % 8)
	}
	return out
}

// P16.4: it doesn't rest on sums: an old slot whose text is written over by one of the same sum is whole, but not the last one.
func TestFallsDoNotRestOnSums(t *testing.T) {
	for n := 3; n <= 6; n++ {
		for _, size := range []int{5, 128, 200} {
			for armed := range 4 {
				for _, fate := range []api.Fate{lost(), kept(), torn(2), torn(100)} {
					t.Run(fmt.Sprint(n, size, armed, fate), func(t *testing.T) {
						d, s := fresh(t, 2)
						for k := 1; k < n-2; k++ {
							checkSave(t, s, []byte("first"), k, api.OK)
						}
						ago := bytes.Repeat([]byte("x"), size)
						checkSave(t, s, ago, n-2, api.OK)
						checkSave(t, s, []byte("ahead"), n-1, api.OK)
						text := sameSum(ago)
						if headFor(1, text) != headFor(1, ago) || bytes.Equal(text, ago) {
							t.Fatal("the texts aren't of one sum")
						}
						d.Arm(armed)
						checkSave(t, s, text, 0, api.ErrDown)
						must(t, d.Crash([]api.Fate{fate, fate}))
						checkEither(t, s, before{[]byte("ahead"), n - 1}, text)
						checkGoesOn(t, d, s)
					})
				}
			}
		}
	}
}
