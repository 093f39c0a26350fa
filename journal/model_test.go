package journal_test

import (
	"bytes"
	"encoding/binary"
	"math/rand/v2"
	"slices"
	"testing"

	"regatta/api"
	"regatta/disk"
	"regatta/journal"
)

// crafted is what a block says, by the chapter's words: each of its numbers may be another than a record's.
type crafted struct {
	data        []byte // at most 104
	size        uint32
	parts, part uint16
	record, gen uint64
}

func (c crafted) block() []byte {
	b := append(bytes.Clone(c.data), make([]byte, 104-len(c.data))...)
	b = binary.LittleEndian.AppendUint32(b, c.size)
	b = binary.LittleEndian.AppendUint16(b, c.parts)
	b = binary.LittleEndian.AppendUint16(b, c.part)
	b = binary.LittleEndian.AppendUint64(b, c.record)
	return binary.LittleEndian.AppendUint64(b, c.gen)
}

// craftedFor is what the blocks of a record say.
func craftedFor(gen, number int, record []byte) []crafted {
	c := crafted{size: uint32(len(record)), parts: uint16(partsFor(len(record))), record: uint64(number), gen: uint64(gen)}
	var list []crafted
	for range c.parts {
		c.data = record[:min(len(record), 104)]
		record = record[len(c.data):]
		list = append(list, c)
		c.part++
	}
	return list
}

// partsFor is how many parts so many bytes take, counted one by one.
func partsFor(size int) int {
	n := 1
	for ; size > 104; size -= 104 {
		n++
	}
	return n
}

// blocksFor is the blocks of a record, one behind the other.
func blocksFor(gen, number int, record []byte) []byte {
	var out []byte
	for _, c := range craftedFor(gen, number, record) {
		out = append(out, c.block()...)
	}
	return out
}

// imageFor is the blocks of a generation's records, one behind the other.
func imageFor(gen int, records ...[]byte) []byte {
	var out []byte
	for i, record := range records {
		out = append(out, blocksFor(gen, i+1, record)...)
	}
	return out
}

// recordsIn is a generation's records in the blocks of a journal: a record is there, if the numbers that its blocks say are those of its blocks made anew.
func recordsIn(image []byte, gen int) [][]byte {
	var list [][]byte
	for len(image) > 0 {
		size := binary.LittleEndian.Uint32(image[104:])
		if size > 262144 || partsFor(int(size)) > len(image)/128 {
			break
		}
		var record []byte
		for at := 0; len(record) < int(size); at += 128 {
			record = append(record, image[at:at+104]...)
		}
		record = record[:size]
		anew := blocksFor(gen, len(list)+1, record)
		for at := 0; at < len(anew); at += 128 {
			if !bytes.Equal(anew[at+104:at+128], image[at+104:at+128]) {
				return list
			}
		}
		list = append(list, record)
		image = image[len(anew):]
	}
	return list
}

// model is a journal that goes by the chapter's words alone: what it appended to a generation, if one is begun.
type model struct {
	d        *disk.Disk
	at, size int
	begun    bool
	gen      int
	records  [][]byte
}

// image is what is read of the journal's blocks.
func (m *model) image() []byte {
	return blocksOf(m.d, m.at, m.size)
}

func (m *model) read(gen int) ([][]byte, api.Errno) {
	switch {
	case gen < 1:
		return nil, api.ErrArg
	case m.d.Down():
		return nil, api.ErrDown
	}
	return recordsIn(m.image(), gen), api.OK
}

func (m *model) begin(gen int) api.Errno {
	if gen < 1 {
		return api.ErrArg
	}
	m.begun, m.gen, m.records = true, gen, nil
	return api.OK
}

func (m *model) left() int {
	if !m.begun {
		return 0
	}
	n := m.size
	for _, record := range m.records {
		n -= partsFor(len(record))
	}
	return n
}

func (m *model) append(record []byte) api.Errno {
	if !m.begun {
		return api.ErrState
	}
	if len(record) > 262144 {
		return api.ErrBig
	}
	if partsFor(len(record)) > m.left() {
		return api.ErrFull
	}
	at := m.at + m.size - m.left()
	for i, c := range craftedFor(m.gen, len(m.records)+1, record) {
		if e := m.d.Write(at+i, c.block()); e != api.OK {
			m.begun = false
			return e
		}
	}
	if e := m.d.Flush(); e != api.OK {
		m.begun = false
		return e
	}
	m.records = append(m.records, bytes.Clone(record))
	return api.OK
}

// pair is a journal, and the model that it is held against: each has a disk of its own, to which the same befalls.
type pair struct {
	t *testing.T
	d *disk.Disk
	j *journal.Journal
	m *model
}

func newPair(t *testing.T, blocks, at, size int) pair {
	t.Helper()
	d := madeDisk(t, blocks)
	return pair{t, d, made(t, d, at, size), &model{d: madeDisk(t, blocks), at: at, size: size}}
}

// both lets something befall both disks.
func (p pair) both(f func(d *disk.Disk)) {
	p.t.Helper()
	f(p.d)
	f(p.m.d)
	p.check()
}

func (p pair) read(gen int) {
	p.t.Helper()
	list, e := p.m.read(gen)
	checkRead(p.t, p.j, gen, list, e)
	p.check()
}

func (p pair) begin(gen int) {
	p.t.Helper()
	checkBegin(p.t, p.j, gen, p.m.begin(gen))
	p.check()
}

func (p pair) append(record []byte) {
	p.t.Helper()
	checkAppend(p.t, p.j, record, p.m.append(record))
	p.check()
}

// check sees to it that both disks are alike, and that as many blocks are left.
func (p pair) check() {
	p.t.Helper()
	checkLeft(p.t, p.j, p.m.left())
	want := p.m.d
	if p.d.Down() != want.Down() || !slices.Equal(p.d.Under(), want.Under()) {
		p.t.Fatalf("down %v, under way %v; want %v, %v", p.d.Down(), p.d.Under(), want.Down(), want.Under())
	}
	for i := range want.Blocks() {
		safe, _ := p.d.Safe(i)
		wanted, _ := want.Safe(i)
		if !bytes.Equal(safe, wanted) {
			p.t.Fatalf("safe of block %d: %x, want %x", i, safe, wanted)
		}
		read, _ := p.d.Read(i)
		wanted, _ = want.Read(i)
		if !bytes.Equal(read, wanted) {
			p.t.Fatalf("block %d: %x, want %x", i, read, wanted)
		}
	}
}

// blocksOf is what is read of some blocks of a disk, one behind the other.
func blocksOf(d *disk.Disk, from, n int) []byte {
	var out []byte
	for i := range n {
		b, _ := d.Read(from + i)
		out = append(out, b...)
	}
	return out
}

// imageOf is what is read of all blocks of a disk.
func imageOf(d *disk.Disk) []byte { return blocksOf(d, 0, d.Blocks()) }

func madeDisk(t *testing.T, blocks int) *disk.Disk {
	t.Helper()
	d, e := disk.New(blocks)
	if e != api.OK {
		t.Fatalf("a disk of %d blocks: %d", blocks, e)
	}
	return d
}

func made(t *testing.T, d *disk.Disk, at, size int) *journal.Journal {
	t.Helper()
	j, e := journal.New(d, at, size)
	if e != api.OK || j == nil {
		t.Fatalf("New(%d blocks, %d, %d): %v, %d", d.Blocks(), at, size, j, e)
	}
	return j
}

// fresh is a new disk, and a journal of all its blocks.
func fresh(t *testing.T, size int) (*disk.Disk, *journal.Journal) {
	t.Helper()
	d := madeDisk(t, size)
	return d, made(t, d, 0, size)
}

// begun is the same with a generation begun.
func begun(t *testing.T, size, gen int) (*disk.Disk, *journal.Journal) {
	t.Helper()
	d, j := fresh(t, size)
	checkBegin(t, j, gen, api.OK)
	return d, j
}

func checkRead(t *testing.T, j *journal.Journal, gen int, want [][]byte, fault api.Errno) {
	t.Helper()
	list, e := j.Read(gen)
	if e != fault || !slices.EqualFunc(list, want, bytes.Equal) {
		t.Fatalf("Read(%d): %q, %d; want %q, %d", gen, told(list), e, told(want), fault)
	}
}

// checkTold sees to it that these are the records of a generation.
func checkTold(t *testing.T, j *journal.Journal, gen int, want ...string) {
	t.Helper()
	checkRead(t, j, gen, bytesOf(want...), api.OK)
}

func checkBegin(t *testing.T, j *journal.Journal, gen int, fault api.Errno) {
	t.Helper()
	if e := j.Begin(gen); e != fault {
		t.Fatalf("Begin(%d): %d, want %d", gen, e, fault)
	}
}

func checkAppend(t *testing.T, j *journal.Journal, record []byte, fault api.Errno) {
	t.Helper()
	if e := j.Append(record); e != fault {
		t.Fatalf("Append of %d bytes: %d, want %d", len(record), e, fault)
	}
}

// appendAll appends texts.
func appendAll(t *testing.T, j *journal.Journal, texts ...string) {
	t.Helper()
	for _, s := range texts {
		checkAppend(t, j, []byte(s), api.OK)
	}
}

func checkLeft(t *testing.T, j *journal.Journal, want int) {
	t.Helper()
	if n := j.Left(); n != want {
		t.Fatalf("Left: %d, want %d", n, want)
	}
}

// checkArmed sees to it that a disk goes down behind just so many calls more.
func checkArmed(t *testing.T, d *disk.Disk, left int) {
	t.Helper()
	for range left {
		must(t, d.Flush())
	}
	if e := d.Flush(); e != api.ErrDown {
		t.Fatalf("behind %d calls: %d", left, e)
	}
}

// checkImage sees to it that this is read of all blocks of a disk.
func checkImage(t *testing.T, d *disk.Disk, want []byte) {
	t.Helper()
	for i := range d.Blocks() {
		if b, _ := d.Read(i); !bytes.Equal(b, want[i*128:i*128+128]) {
			t.Fatalf("block %d: %x, want %x", i, b, want[i*128:i*128+128])
		}
	}
}

// told is records as a failed test tells them.
func told(list [][]byte) []byte {
	out := []byte("(")
	for _, record := range list {
		out = append(out, '[')
		out = append(out, record[:min(len(record), 20)]...)
		out = append(out, ']')
	}
	return append(out, ')')
}

func bytesOf(texts ...string) [][]byte {
	var list [][]byte
	for _, s := range texts {
		list = append(list, []byte(s))
	}
	return list
}

// lay writes bytes to the blocks of a disk from one on, and flushes.
func lay(t *testing.T, d *disk.Disk, from int, b []byte) {
	t.Helper()
	for piece := range slices.Chunk(b, 128) {
		must(t, d.Write(from, piece))
		from++
	}
	must(t, d.Flush())
}

func must(t *testing.T, e api.Errno) {
	t.Helper()
	if e != api.OK {
		t.Fatalf("%d, want OK", e)
	}
}

func shuffled(seed uint64) *rand.Rand { return rand.New(rand.NewPCG(seed, 17)) }

func textOf(r *rand.Rand, n int) []byte {
	out := make([]byte, n)
	for i := range out {
		out[i] = byte(r.Uint32())
	}
	return out
}

// lost, kept and torn are fates.
func lost() api.Fate      { return api.Fate{Kind: api.FLost} }
func kept() api.Fate      { return api.Fate{Kind: api.FKept} }
func torn(n int) api.Fate { return api.Fate{Kind: api.FTorn, Bytes: n} }
