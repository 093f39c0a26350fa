package disk_test

import (
	"bytes"
	"slices"
	"testing"

	"regatta/api"
	"regatta/disk"
)

// roomy is a text with room behind its bytes in which something stands.
func roomy(text string) []byte {
	return append([]byte(text), bytes.Repeat([]byte("behind"), 30)...)[:len(text)]
}

// spoil writes over a text and all its room.
func spoil(b []byte) {
	b = b[:cap(b)]
	for i := range b {
		b[i] = 0xee
	}
}

// whole is a copy of a text with all its room.
func whole(b []byte) []byte { return bytes.Clone(b[:cap(b)]) }

// DOC.md's rules 4 and 8: what is written stays as it is, its room too; what stands in its room isn't written to the disk, and nothing of it is kept.
func TestHandedToWrite(t *testing.T) {
	for _, s := range []string{"", "a", "text", string(bytes.Repeat([]byte("f"), 128))} {
		d := made(t, 1)
		handed := roomy(s)
		was := whole(handed)
		must(t, d.Write(0, handed))
		checkRead(t, d, s)
		if !bytes.Equal(whole(handed), was) {
			t.Fatalf("%q became %q", was, whole(handed))
		}
		spoil(handed)
		checkRead(t, d, s)
		must(t, d.Flush())
		checkBlocks(t, d, s)
		handed = roomy(s)
		was = whole(handed)
		must(t, d.Write(0, handed))
		must(t, d.Crash([]api.Fate{kept()}))
		spoilAnswers(d)
		if !bytes.Equal(whole(handed), was) {
			t.Fatal("what is answered shares what was written")
		}
		spoil(handed)
		checkBlocks(t, d, s)
	}
}

// spoilAnswers changes all that a disk answers of its block 0, and of what is under way.
func spoilAnswers(d *disk.Disk) {
	for _, call := range []func(int) ([]byte, api.Errno){d.Read, d.Safe} {
		b, _ := call(0)
		spoil(b)
	}
	list := d.Under()
	list = list[:cap(list)]
	for k := range list {
		list[k] = 99
	}
}

// DOC.md's rule 4: what is answered is memory of its own: a caller that changes it, with its room, changes nothing of the disk's, and no other answer.
func TestAnswersAreNewMemory(t *testing.T) {
	d := made(t, 2)
	spoilAnswers(d)
	checkBlocks(t, d, "", "")
	must(t, d.Write(0, []byte("safe")))
	must(t, d.Flush())
	spoilAnswers(d)
	checkBlocks(t, d, "safe", "")
	must(t, d.Write(0, []byte("under")))
	must(t, d.Write(1, []byte("way")))
	first, _ := d.Read(0)
	ahead, _ := d.Safe(0)
	list := d.Under()
	spoilAnswers(d)
	if !bytes.Equal(first, filled("under")) || !bytes.Equal(ahead, filled("safe")) || !slices.Equal(list, []int{0, 1}) {
		t.Fatalf("%q, %q, %v", first, ahead, list)
	}
	checkRead(t, d, "under", "way")
	checkSafe(t, d, "safe", "")
	checkState(t, d, 2, false, []int{0, 1})
	must(t, d.Crash([]api.Fate{torn(2), kept()}))
	checkBlocks(t, d, "unfe", "way")
	if !bytes.Equal(first, filled("under")) || !bytes.Equal(ahead, filled("safe")) || !slices.Equal(list, []int{0, 1}) {
		t.Fatalf("behind a fall: %q, %q, %v", first, ahead, list)
	}
}

// DOC.md's rule 4: a list that was answered may be written on, and stays as it was while the disk goes on.
func TestUnderIsNewMemory(t *testing.T) {
	d := made(t, 9)
	var lists [][]int
	for i := range 9 {
		must(t, d.Write(i, nil))
		list := d.Under()
		lists = append(lists, list)
		_ = append(list, 77)
	}
	for i, list := range lists {
		if !slices.Equal(list, numbers(i+1)) {
			t.Errorf("behind %d writes: %v", i+1, list)
		}
	}
	checkState(t, d, 9, false, numbers(9))
}

// DOC.md's rules 4 and 8: fates stay as they are, with their room, and what stands in their room is the fate of no write.
func TestHandedToCrash(t *testing.T) {
	all := []api.Fate{torn(1000), torn(-3), kept(), {Kind: 77, Bytes: 5}, kept(), torn(5)}
	for n := range len(all) {
		d := made(t, 8)
		for i := range 8 {
			must(t, d.Write(i, []byte("abc")))
		}
		handed := slices.Clone(all)[:n]
		must(t, d.Crash(handed))
		if !slices.Equal(handed[:len(all)], all) {
			t.Fatalf("%v became %v", all, handed[:len(all)])
		}
		for i := range 8 {
			want := ""
			if i < n && (i == 0 || i == 2 || i == 4) {
				want = "abc"
			}
			checkAnswer(t, "Safe", d.Safe, i, filled(want), api.OK)
		}
	}
}
