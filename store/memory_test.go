package store_test

import (
	"bytes"
	"slices"
	"testing"

	"regatta/api"
	"regatta/store"
)

// roomy is a text with room behind its bytes in which something stands.
func roomy(text []byte) []byte {
	return append(bytes.Clone(text), bytes.Repeat([]byte("behind"), 60)...)[:len(text)]
}

// spoil writes over a text and all its room.
func spoil(b []byte) {
	b = b[:cap(b)]
	for i := range b {
		b[i] ^= 0xff
	}
}

// checkHanded hands a text with room to a call, which must leave it as it is, its room too, and not keep it.
func checkHanded(t *testing.T, text []byte, call func([]byte) api.Errno, fault api.Errno) {
	t.Helper()
	handed := roomy(text)
	was := bytes.Clone(handed[:cap(handed)])
	if e := call(handed); e != fault {
		t.Fatalf("of %d bytes: %d, want %d", len(text), e, fault)
	}
	if !bytes.Equal(handed[:cap(handed)], was) {
		t.Fatalf("%q became %q", was, handed[:cap(handed)])
	}
	spoil(handed)
}

// DOC.md's rules 4 and 8: a base and a record that are handed in stay as they are, their room too; what stands in the room isn't written, and neither is kept.
func TestHandedIn(t *testing.T) {
	r := shuffled(30)
	for size := range 257 {
		d, s := fresh(t, 2, 4)
		base, record := textOf(r, size), textOf(r, size)
		checkHanded(t, base, s.Save, api.OK)
		checkOpens(t, d, 2, string(base))
		checkHanded(t, record, s.Append, api.OK)
		checkOpens(t, d, 2, string(base), string(record))
		checkImage(t, d, append(imageOf(d)[:6*128:6*128], append(imageFor(1, record), make([]byte, 128*s.Left())...)...))
		must(t, d.Crash(nil))
		checkOpens(t, d, 2, string(base), string(record))
	}
}

// DOC.md's rule 4: what is handed in in vain stays as it is too, when it is refused and when the disk goes down under it, and isn't kept.
func TestHandedInVain(t *testing.T) {
	for armed := range 3 {
		d, s := fresh(t, 2, 3)
		r := shuffled(31)
		checkHanded(t, textOf(r, 5), s.Append, api.ErrState)
		checkHanded(t, textOf(r, 257), s.Save, api.ErrRoom)
		checkHanded(t, textOf(r, 256), s.Save, api.OK)
		checkHanded(t, textOf(r, api.MaxRecord+1), s.Append, api.ErrBig)
		checkHanded(t, textOf(r, 313), s.Append, api.ErrFull)
		d.Arm(armed)
		record := textOf(r, 200)
		checkHanded(t, record, s.Append, api.ErrDown)
		must(t, d.Crash([]api.Fate{kept(), kept()}))
		_, base, records, _ := store.Open(d, 2)
		if armed > 0 && (len(records) != 1 || !bytes.Equal(records[0], record)) {
			t.Fatalf("records %q", toldAll(records))
		}
		d.Arm(armed)
		checkHanded(t, textOf(r, 256), s.Save, api.ErrDown)
		must(t, d.Crash([]api.Fate{kept(), kept()}))
		checkOpen(t, d, 2, base, records, api.OK)
	}
	var none *store.Store
	checkHanded(t, []byte("text"), none.Save, api.ErrNil)
	checkHanded(t, []byte("text"), none.Append, api.ErrNil)
}

// DOC.md's rule 4: what Open answers is memory of its own, the base and each record and their room too: a caller that changes it changes nothing of the disk's, nor of another answer, nor any other list of this one.
func TestAnswersAreNewMemory(t *testing.T) {
	r := shuffled(32)
	d, s := fresh(t, 2, 30)
	base := textOf(r, 200)
	checkSave(t, s, base, api.OK)
	var want [][]byte
	for _, size := range []int{0, 1, 104, 0, 105, 300, 103, 208, 50} {
		want = append(want, textOf(r, size))
		checkAppend(t, s, want[len(want)-1], api.OK)
	}
	image := imageOf(d)
	for k := -1; k < len(want); k++ {
		_, firstBase, first, _ := store.Open(d, 2)
		_, secondBase, second, _ := store.Open(d, 2)
		changed := secondBase
		if k >= 0 {
			changed = second[k]
		}
		spoil(changed)
		_ = append(changed, "more"...)
		all, wanted := append(slices.Clone(second), secondBase), append(slices.Clone(want), base)
		for i := range all {
			if i != (k+len(all))%len(all) && !bytes.Equal(all[i], wanted[i]) {
				t.Fatalf("list %d changed with list %d", i, k)
			}
		}
		clear(append(second, nil))
		if !bytes.Equal(firstBase, base) || !slices.EqualFunc(first, want, bytes.Equal) {
			t.Fatalf("another answer changed with list %d", k)
		}
		checkOpen(t, d, 2, base, want, api.OK)
		checkImage(t, d, image)
	}
	_, firstBase, first, _ := store.Open(d, 2)
	lay(t, d, 0, make([]byte, d.Blocks()*128))
	if !bytes.Equal(firstBase, base) || !slices.EqualFunc(first, want, bytes.Equal) {
		t.Fatal("an answer changed as the disk went on")
	}
}
