package journal_test

import (
	"bytes"
	"math"
	"math/rand/v2"
	"slices"
	"testing"

	"regatta/api"
	"regatta/disk"
	"regatta/journal"
)

// checkEither sees to it that a generation tells the records that were answered OK, or behind them the one that was being appended, and answers which: whether that one is there.
func checkEither(t *testing.T, j *journal.Journal, gen int, sure [][]byte, record []byte) bool {
	t.Helper()
	all := append(slices.Clone(sure), record)
	if list, e := j.Read(gen); e == api.OK && slices.EqualFunc(list, all, bytes.Equal) {
		return true
	}
	checkRead(t, j, gen, sure, api.OK)
	return false
}

// checkGoesOn sees to it that a greater generation has no record, and is appended to as ever.
func checkGoesOn(t *testing.T, d *disk.Disk, j *journal.Journal, gen int) {
	t.Helper()
	checkNotBegun(t, j)
	checkTold(t, j, gen)
	checkBegin(t, j, gen, api.OK)
	checkTold(t, j, gen)
	long := bytes.Repeat([]byte("goes on"), 30)
	for k, record := range [][]byte{[]byte("goes on"), long} {
		checkAppend(t, j, record, api.OK)
		must(t, d.Crash(nil))
		checkRead(t, j, gen, [][]byte{[]byte("goes on"), long}[:k+1], api.OK)
	}
}

// fatesFor are lists of fates for so many writes under way: all alike, each alone, and mixed; none, too few, too many.
func fatesFor(writes int) [][]api.Fate {
	list := [][]api.Fate{nil, {kept()}, {torn(64)}, slices.Repeat([]api.Fate{kept()}, writes+2)}
	for _, f := range []api.Fate{lost(), kept(), torn(0), torn(1), torn(50), torn(104), torn(105), torn(108), torn(110), torn(112), torn(113), torn(120), torn(121), torn(127), torn(128), torn(-1), torn(math.MaxInt), torn(math.MinInt), {Kind: 3, Bytes: 50}, {Kind: -1}, {Kind: math.MaxInt}} {
		list = append(list, slices.Repeat([]api.Fate{f}, writes))
		for k := range writes {
			alone, without := make([]api.Fate, writes), slices.Repeat([]api.Fate{kept()}, writes)
			alone[k], without[k] = f, f
			list = append(list, alone, without)
		}
	}
	return list
}

// P17.5: a disk that goes down at each of the calls of an Append, with each kind of fate for what is under way, behind none and several records, over noughts and over an elder generation: the new record is there just if all of its blocks are; a greater generation goes on from its first block.
func TestFallAtEachCall(t *testing.T) {
	r := shuffled(20)
	for _, ahead := range []int{0, 1, 3} {
		for _, size := range []int{0, 1, 104, 105, 250, 400} {
			parts := partsFor(size)
			for armed := range parts + 1 {
				for k, fates := range fatesFor(min(armed+1, parts)) {
					d, j := begun(t, ahead*2+parts+3, 1)
					if k%2 == 1 {
						checkAppend(t, j, textOf(r, d.Blocks()*104), api.OK)
					}
					checkBegin(t, j, 258, api.OK)
					var sure [][]byte
					for range ahead {
						sure = append(sure, textOf(r, r.IntN(209)))
						checkAppend(t, j, sure[len(sure)-1], api.OK)
					}
					at := d.Blocks() - j.Left()
					record := textOf(r, size)
					d.Arm(armed)
					checkAppend(t, j, record, api.ErrDown)
					checkLeft(t, j, 0)
					checkRead(t, j, 258, nil, api.ErrDown)
					must(t, d.Crash(fates))
					isNew := checkEither(t, j, 258, sure, record)
					if all := bytes.Equal(blocksOf(d, at, parts), blocksFor(258, ahead+1, record)); isNew != all {
						t.Fatalf("behind %d records, %d bytes, armed with %d, %v: there %v, all of its blocks %v", ahead, size, armed, fates, isNew, all)
					}
					must(t, d.Crash(nil))
					checkEither(t, j, 258, sure, record)
					checkGoesOn(t, d, j, 259)
				}
			}
		}
	}
}

// P17.5: a block that is torn behind each number of bytes, over one of an elder generation that is alike but for that: it is there only if the generation is written whole, and no later generation takes it for its own.
func TestTorn(t *testing.T) {
	for _, x := range []struct{ elder, newer int }{
		{1, 2}, {1, 3}, {2, 255}, {255, 256}, {256, 257}, {255, 257}, {256, 511}, {511, 512}, {511, 513}, {0x01ff, 0x0201}, {65535, 65536}, {65535, 65537}, {0x01ffff, 0x020001}, {0xffffff, 1 << 24}, {1, 1 << 32}, {1<<32 - 1, 1 << 32}, {1<<32 - 1, 1<<32 + 1}, {1 << 32, 1<<33 + 1<<8}, {0x0102030405060708, 0x0102030405060709}, {0x0102030405060708, 0x0203040506070809}, {1<<56 - 1, 1 << 56}, {1<<62 - 1, 1 << 62}, {1, math.MaxInt - 1}, {math.MaxInt - 2, math.MaxInt - 1},
	} {
		for reached := range 130 {
			d, j := begun(t, 2, x.elder)
			appendAll(t, j, "elder", "elder")
			checkBegin(t, j, x.newer, api.OK)
			appendAll(t, j, "newer")
			d.Arm(1)
			checkAppend(t, j, []byte("later"), api.ErrDown)
			must(t, d.Crash([]api.Fate{torn(reached)}))
			isNew := checkEither(t, j, x.newer, bytesOf("newer"), []byte("later"))
			if b, _ := d.Safe(1); isNew != bytes.Equal(b, blocksFor(x.newer, 2, []byte("later"))) || isNew && reached <= 120 || !isNew && reached >= 128 {
				t.Fatalf("%d behind %d, torn behind %d bytes: there %v", x.newer, x.elder, reached, isNew)
			}
			checkLaterGenerations(t, d, j, x.elder, x.newer)
		}
	}
}

// checkLaterGenerations sees to it that none that is greater than the last one finds a record, at the block that is torn neither.
func checkLaterGenerations(t *testing.T, d *disk.Disk, j *journal.Journal, elder, newer int) {
	t.Helper()
	for bits := 0; bits < 64; bits += 8 {
		for _, gen := range []int{newer + 1, newer + 1<<bits, newer | (1<<bits - 1), newer&^(1<<bits-1) | elder&(1<<bits-1), elder&^(1<<bits-1) | newer&(1<<bits-1), math.MaxInt} {
			if gen <= newer {
				continue
			}
			checkTold(t, j, gen)
			checkBegin(t, j, gen, api.OK)
			checkTold(t, j, gen)
			image := imageOf(d)
			lay(t, d, 0, blocksFor(gen, 1, []byte("first")))
			checkTold(t, j, gen, "first")
			lay(t, d, 0, image)
		}
	}
}

// P17.5: a record of three parts, each of which is lost, kept, or torn, with all of them under way or fewer: it is there whole or not at all.
func TestFallOfParts(t *testing.T) {
	fates := []api.Fate{lost(), kept(), torn(1), torn(104), torn(111), torn(115), torn(121), torn(124), torn(127)}
	record := textOf(shuffled(21), 300)
	for armed := range 4 {
		for _, a := range fates {
			for _, b := range fates {
				for _, c := range fates {
					d, j := begun(t, 5, 300)
					checkAppend(t, j, textOf(shuffled(22), 104), api.OK)
					checkAppend(t, j, textOf(shuffled(23), 300), api.OK)
					checkBegin(t, j, 0x010302, api.OK)
					appendAll(t, j, "sure")
					d.Arm(armed)
					checkAppend(t, j, record, api.ErrDown)
					must(t, d.Crash([]api.Fate{a, b, c}))
					isNew := checkEither(t, j, 0x010302, bytesOf("sure"), record)
					if isNew != (armed >= 2 && whole(a) && whole(b) && whole(c)) {
						t.Fatalf("armed with %d, %v %v %v: there %v", armed, a, b, c, isNew)
					}
					checkTold(t, j, 0x010303)
				}
			}
		}
	}
}

// whole says whether a fate leaves all of a block that was written over one of the generation 300 by one of 0x010302: above the third byte of it they are alike.
func whole(f api.Fate) bool {
	return f.Kind == api.FKept || f.Kind == api.FTorn && f.Bytes >= 123
}

// P17.5: what is kept of a record that fell in the midst is never read with the blocks of the next generation, wherever it stands, though record, part and bytes are alike.
func TestFallThenTheSameAnew(t *testing.T) {
	record := bytes.Repeat([]byte("r"), 300)
	other := bytes.Repeat([]byte("o"), 300)
	for armed := range 4 {
		for again := range 4 {
			for _, fates := range fatesFor(3) {
				d, j := begun(t, 4, 1)
				d.Arm(armed)
				checkAppend(t, j, record, api.ErrDown)
				must(t, d.Crash([]api.Fate{kept(), kept(), kept()}))
				checkBegin(t, j, 2, api.OK)
				d.Arm(again)
				checkAppend(t, j, other, api.ErrDown)
				must(t, d.Crash(fates))
				checkEither(t, j, 2, nil, other)
				checkGoesOn(t, d, j, 3)
			}
		}
	}
}

// P17.5: any falls, one behind the other, with any fates, in generations that rise by any numbers: at each moment what is told was answered OK, or was being appended.
func TestFallsAtRandom(t *testing.T) {
	r := shuffled(24)
	for range 300 {
		d, j := fresh(t, 1+r.IntN(9))
		gen := 0
		var sure [][]byte
		for range 1 + r.IntN(80) {
			if j.Left() == 0 || r.IntN(10) == 0 {
				gen = greater(r, gen)
				checkBegin(t, j, gen, api.OK)
				sure = nil
				checkTold(t, j, gen)
			}
			record := anyRecord(r, sure)
			d.Arm(r.IntN(12) - 1)
			e := j.Append(record)
			switch e {
			case api.OK:
				sure = append(sure, record)
				checkRead(t, j, gen, sure, api.OK)
			case api.ErrFull:
				checkRead(t, j, gen, sure, api.OK)
			case api.ErrDown:
				checkNotBegun(t, j)
			default:
				t.Fatalf("Append of %d bytes: %d", len(record), e)
			}
			must(t, d.Crash(anyFates(r)))
			if e == api.ErrDown {
				checkEither(t, j, gen, sure, record)
			} else {
				checkRead(t, j, gen, sure, api.OK)
			}
		}
	}
}

// greater is a generation that is greater: by one, by so much that bytes of it carry, or by any number.
func greater(r *rand.Rand, gen int) int {
	switch r.IntN(4) {
	case 0:
		return (gen | 255) + 1
	case 1:
		return gen + 1 + r.IntN(300)
	case 2:
		return gen + 1 + r.IntN(1<<(8*(1+r.IntN(6))))
	}
	return gen + 1
}

// anyRecord is a record, now and then one that was there already.
func anyRecord(r *rand.Rand, sure [][]byte) []byte {
	if len(sure) > 0 && r.IntN(4) == 0 {
		return sure[r.IntN(len(sure))]
	}
	return textOf(r, r.IntN(1+r.IntN(500)))
}

// anyFates are some fates, of kinds that there aren't too.
func anyFates(r *rand.Rand) []api.Fate {
	var list []api.Fate
	for range r.IntN(7) {
		f := api.Fate{Kind: r.IntN(4), Bytes: r.IntN(140) - 5}
		switch r.IntN(12) {
		case 0:
			f = api.Fate{Kind: int(r.Uint64()), Bytes: int(r.Uint64())}
		case 1, 2, 3:
			f = torn(119 + r.IntN(10))
		}
		list = append(list, f)
	}
	return list
}
