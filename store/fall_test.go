package store_test

import (
	"bytes"
	"math"
	"math/rand/v2"
	"slices"
	"testing"

	"regatta/api"
	"regatta/disk"
	"regatta/store"
)

// content is a base, and the records behind it.
type content struct {
	base    []byte
	records [][]byte
}

func (c content) with(record []byte) content {
	return content{c.base, append(slices.Clone(c.records), record)}
}

func (c content) equal(o content) bool {
	return bytes.Equal(c.base, o.base) && slices.EqualFunc(c.records, o.records, bytes.Equal)
}

// checkEither opens a store, which must tell what was sure, or what was under way, twice the same; and answers it, and whether that was there.
func checkEither(t *testing.T, d *disk.Disk, room int, sure, perhaps content) (*store.Store, bool) {
	t.Helper()
	_, base, records, e := store.Open(d, room)
	isNew := e == api.OK && perhaps.equal(content{base, records})
	if isNew {
		sure = perhaps
	}
	checkOpen(t, d, room, sure.base, sure.records, api.OK)
	must(t, d.Crash(nil))
	return checkOpen(t, d, room, sure.base, sure.records, api.OK), isNew
}

// checkGoesOn sees to it that a store that was opened keeps a base, and records behind it.
func checkGoesOn(t *testing.T, d *disk.Disk, room int, s *store.Store) {
	t.Helper()
	long := bytes.Repeat([]byte("goes on"), 20)
	checkSave(t, s, []byte("goes on"), api.OK)
	checkOpens(t, d, room, "goes on")
	appendAll(t, s, "goes on", string(long))
	must(t, d.Crash(nil))
	checkOpens(t, d, room, "goes on", "goes on", string(long))
}

// fatesFor are lists of fates for so many writes under way: all alike, each alone, and mixed; none, too few, too many.
func fatesFor(writes int) [][]api.Fate {
	list := [][]api.Fate{nil, {kept()}, {torn(64)}, slices.Repeat([]api.Fate{kept()}, writes+2)}
	for _, f := range []api.Fate{lost(), kept(), torn(0), torn(1), torn(64), torn(104), torn(112), torn(120), torn(121), torn(127), torn(128), torn(-1), torn(math.MaxInt), torn(math.MinInt), {Kind: 3, Bytes: 50}, {Kind: -1}, {Kind: math.MaxInt}} {
		list = append(list, slices.Repeat([]api.Fate{f}, writes))
		for k := range writes {
			alone, without := make([]api.Fate, writes), slices.Repeat([]api.Fate{kept()}, writes)
			alone[k], without[k] = f, f
			list = append(list, alone, without)
		}
	}
	return list
}

// filled is a store to which bases were saved, each with records behind it, and what it holds.
func filled(t *testing.T, r *rand.Rand, bases, records int) (*disk.Disk, *store.Store, content) {
	t.Helper()
	d, s := fresh(t, 2, 9)
	var sure content
	for range bases {
		sure = content{base: textOf(r, r.IntN(257))}
		checkSave(t, s, sure.base, api.OK)
		for range records {
			record := textOf(r, r.IntN(209))
			checkAppend(t, s, record, api.OK)
			sure = sure.with(record)
		}
	}
	return d, s, sure
}

// P18.2, P18.4: a disk that goes down at each of the calls of a Save, with each kind of fate for what was under way: the base of the last Save that was answered OK is told, with its records, or the new one, without any; and it goes on from there.
func TestFallInASave(t *testing.T) {
	r := shuffled(20)
	for bases := range 4 {
		for _, size := range []int{0, 1, 128, 129, 256} {
			blocks := (size + 127) / 128
			for armed := range blocks + 3 {
				for _, fates := range fatesFor(max(1, blocks)) {
					d, s, sure := filled(t, r, bases, 2)
					base := textOf(r, size)
					d.Arm(armed)
					checkSave(t, s, base, api.ErrDown)
					checkNotBegun(t, s)
					must(t, d.Crash(fates))
					checkNotBegun(t, s)
					again, isNew := checkEither(t, d, 2, sure, content{base: base})
					headKept := len(fates) > 0 && (fates[0].Kind == api.FKept || fates[0].Kind == api.FTorn && fates[0].Bytes > 120)
					if bases+size > 0 && isNew != (armed > blocks && headKept) {
						t.Fatalf("behind %d bases, %d bytes, armed with %d, %v: the new base there %v", bases, size, armed, fates, isNew)
					}
					checkGoesOn(t, d, 2, again)
				}
			}
		}
	}
}

// P18.3, P18.4: a disk that goes down at each of the calls of an Append, with each kind of fate: the base and all records whose Append was answered OK are told, and the new one just if all of its blocks are there; and it goes on from there.
func TestFallInAnAppend(t *testing.T) {
	r := shuffled(21)
	for bases := 1; bases <= 3; bases++ {
		for _, size := range []int{0, 1, 104, 105, 300} {
			parts := partsFor(size)
			for armed := range parts + 1 {
				for k, fates := range fatesFor(min(armed+1, parts)) {
					d, s, sure := filled(t, r, bases, k%3)
					at := d.Blocks() - s.Left()
					record := textOf(r, size)
					d.Arm(armed)
					checkAppend(t, s, record, api.ErrDown)
					checkNotBegun(t, s)
					must(t, d.Crash(fates))
					checkNotBegun(t, s)
					again, isNew := checkEither(t, d, 2, sure, sure.with(record))
					if all := bytes.Equal(blocksOf(d, at, parts), blocksFor(bases, k%3+1, record)); isNew != all {
						t.Fatalf("behind %d records, %d bytes, armed with %d, %v: there %v, all of its blocks %v", k%3, size, armed, fates, isNew, all)
					}
					checkGoesOn(t, d, 2, again)
				}
			}
		}
	}
}

// P18.4: the store that fell itself goes on, by its next Save, as one that is opened anew does.
func TestTheFallenStoreGoesOn(t *testing.T) {
	r := shuffled(22)
	for armed := range 5 + 3 {
		for _, fate := range []api.Fate{lost(), kept(), torn(50), torn(120), torn(121), torn(127)} {
			d, s, sure := filled(t, r, 2, 2)
			perhaps := content{base: textOf(r, 200)}
			if armed < 5 {
				d.Arm(armed)
				checkSave(t, s, perhaps.base, api.ErrDown)
			} else {
				perhaps = sure.with(textOf(r, 200))
				d.Arm(armed - 5)
				checkAppend(t, s, perhaps.records[2], api.ErrDown)
			}
			must(t, d.Crash([]api.Fate{fate, fate}))
			checkEither(t, d, 2, sure, perhaps)
			checkNotBegun(t, s)
			checkGoesOn(t, d, 2, s)
		}
	}
}

// P18.4: a Save falls, with its head kept or lost, and then the next one, or an Append behind that: no record of a generation that fell is told of another.
func TestFallBehindAFall(t *testing.T) {
	r := shuffled(23)
	fates := []api.Fate{lost(), kept(), torn(60), torn(121)}
	for first := range 5 {
		for _, a := range fates {
			for second := range 9 {
				for _, b := range fates {
					d, s, sure := filled(t, r, 1, 1)
					perhaps := content{base: textOf(r, 256)}
					d.Arm(first)
					checkSave(t, s, perhaps.base, api.ErrDown)
					must(t, d.Crash([]api.Fate{a, a}))
					s, isNew := checkEither(t, d, 2, sure, perhaps)
					if isNew {
						sure = perhaps
					}
					d.Arm(second)
					perhaps = content{base: textOf(r, 256)}
					e := s.Save(perhaps.base)
					for _, record := range [][]byte{textOf(r, 10), textOf(r, 120)} {
						if e != api.OK {
							break
						}
						sure = perhaps
						perhaps = sure.with(record)
						e = s.Append(record)
					}
					if e != api.ErrDown {
						t.Fatalf("armed with %d: %d", second, e)
					}
					must(t, d.Crash([]api.Fate{b, b}))
					s, _ = checkEither(t, d, 2, sure, perhaps)
					checkGoesOn(t, d, 2, s)
				}
			}
		}
	}
}

// P18.4: any calls of stores one after the other, with any falls in them and between them, and any fates: at each opening what is told was answered OK, or was under way as it fell.
func TestFallsAtRandom(t *testing.T) {
	r := shuffled(24)
	for range 400 {
		room := 1 + r.IntN(3)
		d, s := fresh(t, room, 1+r.IntN(9))
		var sure content
		for range 1 + r.IntN(60) {
			d.Arm(r.IntN(14) - 1)
			perhaps, e := sure, api.OK
			if r.IntN(4) == 0 || !s.Begun() {
				perhaps = content{base: textOf(r, r.IntN(room*128+1))}
				e = s.Save(perhaps.base)
			} else {
				record := anyRecord(r, sure.records)
				perhaps = sure.with(record)
				e = s.Append(record)
			}
			switch e {
			case api.OK:
				sure = perhaps
			case api.ErrFull:
				perhaps = sure
			case api.ErrDown:
				checkNotBegun(t, s)
			default:
				t.Fatalf("%d", e)
			}
			if e != api.ErrDown && r.IntN(3) > 0 {
				d.Arm(-1)
				continue
			}
			must(t, d.Crash(anyFates(r)))
			if e != api.ErrDown {
				perhaps = sure
			}
			again, isNew := checkEither(t, d, room, sure, perhaps)
			if isNew {
				sure = perhaps
			}
			if r.IntN(2) == 0 {
				s = again
			}
		}
	}
}

// anyRecord is a record, now and then one that was there already.
func anyRecord(r *rand.Rand, sure [][]byte) []byte {
	if len(sure) > 0 && r.IntN(4) == 0 {
		return sure[r.IntN(len(sure))]
	}
	return textOf(r, r.IntN(1+r.IntN(400)))
}

// anyFates are some fates, of kinds that there aren't too.
func anyFates(r *rand.Rand) []api.Fate {
	var list []api.Fate
	for range r.IntN(7) {
		f := api.Fate{Kind: r.IntN(4), Bytes: r.IntN(140) - 5}
		switch r.IntN(12) {
		case 0:
			f = api.Fate{Kind: int(r.Uint64()), Bytes: int(r.Uint64())}
		case 1, 2, 3:
			f = torn(119 + r.IntN(10))
		}
		list = append(list, f)
	}
	return list
}
