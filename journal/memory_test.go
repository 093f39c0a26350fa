package journal_test

import (
	"bytes"
	"testing"

	"regatta/api"
	"regatta/journal"
)

// roomy is a text with room behind its bytes in which something stands.
func roomy(text []byte) []byte {
	return append(bytes.Clone(text), bytes.Repeat([]byte("behind"), 60)...)[:len(text)]
}

// spoil writes over a text and all its room.
func spoil(b []byte) {
	b = b[:cap(b)]
	for i := range b {
		b[i] ^= 0xff
	}
}

// DOC.md's rules 4 and 8: a record that is appended stays as it is, its room too; what stands in its room isn't written, and the list isn't kept.
func TestHandedToAppend(t *testing.T) {
	for size := range 320 {
		d, j := begun(t, 8, 1)
		var want [][]byte
		for n := range 2 {
			record := textOf(shuffled(uint64(size+1000*n)), size)
			want = append(want, record)
			handed := roomy(record)
			was := bytes.Clone(handed[:cap(handed)])
			checkAppend(t, j, handed, api.OK)
			checkRead(t, j, 1, want, api.OK)
			if !bytes.Equal(handed[:cap(handed)], was) {
				t.Fatalf("%q became %q", was, handed[:cap(handed)])
			}
			spoil(handed)
			checkRead(t, j, 1, want, api.OK)
			must(t, d.Crash(nil))
			checkRead(t, j, 1, want, api.OK)
		}
		checkImage(t, d, append(imageFor(1, want...), make([]byte, 128*j.Left())...))
	}
}

// DOC.md's rule 4: a record that isn't appended stays as it is too, when it is refused and when the disk goes down under it, and isn't kept.
func TestHandedInVain(t *testing.T) {
	for armed := range 3 {
		d, j := fresh(t, 3)
		for k, size := range []int{5, 400, api.MaxRecord + 1, 200} {
			if k == 1 {
				checkBegin(t, j, 1, api.OK)
			}
			d.Arm(armed)
			handed := roomy(textOf(shuffled(30), size))
			was := bytes.Clone(handed[:cap(handed)])
			checkAppend(t, j, handed, []api.Errno{api.ErrState, api.ErrFull, api.ErrBig, api.ErrDown}[k])
			if !bytes.Equal(handed[:cap(handed)], was) {
				t.Fatalf("%q became %q", was, handed[:cap(handed)])
			}
			spoil(handed)
		}
		must(t, d.Crash([]api.Fate{kept(), kept()}))
		var want [][]byte
		if armed > 0 {
			want = [][]byte{textOf(shuffled(30), 200)}
		}
		checkRead(t, j, 1, want, api.OK)
	}
}

// readBack is what Read answers of the generation 1, which must be these records.
func readBack(t *testing.T, j *journal.Journal, want [][]byte) [][]byte {
	t.Helper()
	checkRead(t, j, 1, want, api.OK)
	list, _ := j.Read(1)
	return list
}

// DOC.md's rule 4: what is answered is memory of its own, each record and its room too: a caller that changes it changes nothing of the disk's, no other record, and no other answer.
func TestAnswersAreNewMemory(t *testing.T) {
	r := shuffled(31)
	d, j := begun(t, 30, 1)
	var want [][]byte
	for _, size := range []int{0, 1, 104, 0, 105, 300, 103, 208, 50} {
		want = append(want, textOf(r, size))
		checkAppend(t, j, want[len(want)-1], api.OK)
	}
	image := imageOf(d)
	for k := range want {
		first, second := readBack(t, j, want), readBack(t, j, want)
		spoil(second[k])
		_ = append(second[k], "more"...)
		for i := range want {
			if i != k && !bytes.Equal(second[i], want[i]) || !bytes.Equal(first[i], want[i]) {
				t.Fatalf("record %d changed with record %d", i, k)
			}
		}
		_ = append(second, nil)
		clear(second)
		checkRead(t, j, 1, want, api.OK)
		checkImage(t, d, image)
	}
	first := readBack(t, j, want)
	lay(t, d, 0, make([]byte, 30*128))
	for i := range want {
		if !bytes.Equal(first[i], want[i]) {
			t.Fatalf("record %d changed as the disk went on", i)
		}
	}
}
