package store_test

import (
	"bytes"
	"encoding/binary"
	"hash/crc32"
	"math/rand/v2"
	"slices"
	"testing"

	"regatta/api"
	"regatta/disk"
	"regatta/store"
)

// headFor is a slot's head of a text, by chapter 16's words.
func headFor(n uint64, text []byte) []byte {
	b := binary.LittleEndian.AppendUint64(nil, n)
	b = binary.LittleEndian.AppendUint64(b, uint64(len(text)))
	b = binary.LittleEndian.AppendUint32(b, crc32.ChecksumIEEE(text))
	b = binary.LittleEndian.AppendUint32(b, crc32.ChecksumIEEE(b))
	b = append(b, make([]byte, 96)...)
	return binary.LittleEndian.AppendUint64(b, n)
}

// partsFor is how many blocks a record of so many bytes takes, counted one by one.
func partsFor(size int) int {
	n := 1
	for ; size > 104; size -= 104 {
		n++
	}
	return n
}

// blocksFor is the blocks of a record, one behind the other, by chapter 17's words.
func blocksFor(gen, number int, record []byte) []byte {
	var out []byte
	size, parts := len(record), partsFor(len(record))
	for part := range parts {
		piece := record[:min(len(record), 104)]
		record = record[len(piece):]
		out = append(append(out, piece...), make([]byte, 104-len(piece))...)
		out = binary.LittleEndian.AppendUint32(out, uint32(size))
		out = binary.LittleEndian.AppendUint16(out, uint16(parts))
		out = binary.LittleEndian.AppendUint16(out, uint16(part))
		out = binary.LittleEndian.AppendUint64(out, uint64(number))
		out = binary.LittleEndian.AppendUint64(out, uint64(gen))
	}
	return out
}

// imageFor is the blocks of a generation's records, one behind the other.
func imageFor(gen int, records ...[]byte) []byte {
	var out []byte
	for i, record := range records {
		out = append(out, blocksFor(gen, i+1, record)...)
	}
	return out
}

// recordsIn is a generation's records in the blocks of a journal: a record is there, if the numbers that its blocks say are those of its blocks made anew.
func recordsIn(image []byte, gen int) [][]byte {
	var list [][]byte
	for len(image) > 0 {
		size := binary.LittleEndian.Uint32(image[104:])
		if size > 262144 || partsFor(int(size)) > len(image)/128 {
			break
		}
		var record []byte
		for at := 0; len(record) < int(size); at += 128 {
			record = append(record, image[at:at+104]...)
		}
		record = record[:size]
		anew := blocksFor(gen, len(list)+1, record)
		for at := 0; at < len(anew); at += 128 {
			if !bytes.Equal(anew[at+104:at+128], image[at+104:at+128]) {
				return list
			}
		}
		list = append(list, record)
		image = image[len(anew):]
	}
	return list
}

// model is a store that goes by the chapters' words alone: where its snap and its journal lie, and what it appended, if it is begun.
type model struct {
	d       *disk.Disk
	room    int
	begun   bool
	gen     int
	records [][]byte
}

// behind is the first block of the journal.
func (m *model) behind() int { return 1 + m.room + 1 + m.room }

// slot is the text of a slot, and its number; or 0, if it isn't whole.
func (m *model) slot(which int) ([]byte, uint64) {
	all := blocksOf(m.d, which*(1+m.room), 1+m.room)
	n, last := binary.LittleEndian.Uint64(all), binary.LittleEndian.Uint64(all[120:])
	length := binary.LittleEndian.Uint64(all[8:])
	if n != last || n == 0 || n > 1<<62 || n%2 != uint64(which) || length > uint64(m.room)*128 {
		return nil, 0
	}
	text := all[128 : 128+length]
	if binary.LittleEndian.Uint32(all[16:]) != crc32.ChecksumIEEE(text) || binary.LittleEndian.Uint32(all[20:]) != crc32.ChecksumIEEE(all[:20]) {
		return nil, 0
	}
	return text, n
}

// last is the text with the greater number; or 0, if there is none.
func (m *model) last() ([]byte, int) {
	even, e := m.slot(0)
	odd, o := m.slot(1)
	if e > o {
		return even, int(e)
	}
	return odd, int(o)
}

func (m *model) open() ([]byte, [][]byte, api.Errno) {
	if m.d.Down() {
		return nil, nil, api.ErrDown
	}
	m.begun = false
	base, n := m.last()
	if n == 0 {
		return nil, nil, api.OK
	}
	return base, recordsIn(blocksOf(m.d, m.behind(), m.d.Blocks()-m.behind()), n), api.OK
}

func (m *model) save(base []byte) api.Errno {
	m.begun = false
	if len(base) > m.room*128 {
		return api.ErrRoom
	}
	if m.d.Down() {
		return api.ErrDown
	}
	_, n := m.last()
	if n >= 1<<62 {
		return api.ErrBig
	}
	n++
	head := n % 2 * (1 + m.room)
	for _, e := range []api.Errno{write(m.d, head+1, base), m.d.Flush(), write(m.d, head, headFor(uint64(n), base)), m.d.Flush()} {
		if e != api.OK {
			return e
		}
	}
	m.begun, m.gen, m.records = true, n, nil
	return api.OK
}

func (m *model) append(record []byte) api.Errno {
	switch {
	case !m.begun:
		return api.ErrState
	case len(record) > 262144:
		return api.ErrBig
	case partsFor(len(record)) > m.left():
		return api.ErrFull
	}
	at := m.d.Blocks() - m.left()
	for _, e := range []api.Errno{write(m.d, at, blocksFor(m.gen, len(m.records)+1, record)), m.d.Flush()} {
		if e != api.OK {
			m.begun = false
			return e
		}
	}
	m.records = append(m.records, bytes.Clone(record))
	return api.OK
}

func (m *model) left() int {
	if !m.begun {
		return 0
	}
	n := m.d.Blocks() - m.behind()
	for _, record := range m.records {
		n -= partsFor(len(record))
	}
	return n
}

// write writes bytes to the blocks of a disk from one on, up to the first error. (Of a disk that is down all calls say so: the next one may come all the same.)
func write(d *disk.Disk, from int, b []byte) api.Errno {
	for piece := range slices.Chunk(b, 128) {
		if e := d.Write(from, piece); e != api.OK {
			return e
		}
		from++
	}
	return api.OK
}

// pair is a store, and the model that it is held against: each has a disk of its own, to which the same befalls.
type pair struct {
	t *testing.T
	d *disk.Disk
	s *store.Store
	m *model
}

func newPair(t *testing.T, blocks, room int) *pair {
	t.Helper()
	p := &pair{t: t, d: madeDisk(t, blocks), m: &model{d: madeDisk(t, blocks), room: room}}
	p.open()
	return p
}

// both lets something befall both disks.
func (p *pair) both(f func(d *disk.Disk)) {
	p.t.Helper()
	f(p.d)
	f(p.m.d)
	p.check()
}

// open opens a store over what there is; if it can't be, the old one goes on.
func (p *pair) open() {
	p.t.Helper()
	base, records, fault := p.m.open()
	s := checkOpen(p.t, p.d, p.m.room, base, records, fault)
	if fault == api.OK {
		p.s = s
	}
	p.check()
}

func (p *pair) save(base []byte) {
	p.t.Helper()
	checkSave(p.t, p.s, base, p.m.save(base))
	p.check()
}

func (p *pair) append(record []byte) {
	p.t.Helper()
	checkAppend(p.t, p.s, record, p.m.append(record))
	p.check()
}

// check sees to it that both stores and both disks are alike.
func (p *pair) check() {
	p.t.Helper()
	checkState(p.t, p.s, p.m.begun, p.m.left())
	want := p.m.d
	if p.d.Down() != want.Down() || !slices.Equal(p.d.Under(), want.Under()) {
		p.t.Fatalf("down %v, under way %v; want %v, %v", p.d.Down(), p.d.Under(), want.Down(), want.Under())
	}
	checkImage(p.t, p.d, imageOf(want))
	for i := range want.Blocks() {
		safe, _ := p.d.Safe(i)
		wanted, _ := want.Safe(i)
		if !bytes.Equal(safe, wanted) {
			p.t.Fatalf("safe of block %d: %x, want %x", i, safe, wanted)
		}
	}
}

// blocksOf is what is read of some blocks of a disk, one behind the other; noughts, if it is down.
func blocksOf(d *disk.Disk, from, n int) []byte {
	out := make([]byte, n*128)
	for i := range n {
		b, _ := d.Read(from + i)
		copy(out[i*128:], b)
	}
	return out
}

// imageOf is what is read of all blocks of a disk.
func imageOf(d *disk.Disk) []byte { return blocksOf(d, 0, d.Blocks()) }

// checkImage sees to it that this is read of all blocks of a disk.
func checkImage(t *testing.T, d *disk.Disk, want []byte) {
	t.Helper()
	got := imageOf(d)
	for i := range d.Blocks() {
		if b, w := got[i*128:i*128+128], want[i*128:i*128+128]; !bytes.Equal(b, w) {
			t.Fatalf("block %d: %x, want %x", i, b, w)
		}
	}
}

func madeDisk(t *testing.T, blocks int) *disk.Disk {
	t.Helper()
	d, e := disk.New(blocks)
	if e != api.OK {
		t.Fatalf("a disk of %d blocks: %d", blocks, e)
	}
	return d
}

// fresh is a new disk that has so many blocks behind a snap of this room, and its store.
func fresh(t *testing.T, room, behind int) (*disk.Disk, *store.Store) {
	t.Helper()
	d := madeDisk(t, 2*(1+room)+behind)
	return d, checkOpen(t, d, room, nil, nil, api.OK)
}

// begun is the same, begun behind a base.
func begun(t *testing.T, room, behind int, base string) (*disk.Disk, *store.Store) {
	t.Helper()
	d, s := fresh(t, room, behind)
	checkSave(t, s, []byte(base), api.OK)
	return d, s
}

// checkOpen sees to it that Open answers this, and that what it answers isn't begun.
func checkOpen(t *testing.T, d *disk.Disk, room int, base []byte, records [][]byte, fault api.Errno) *store.Store {
	t.Helper()
	s, b, list, e := store.Open(d, room)
	if e != fault || (s != nil) != (fault == api.OK) || !bytes.Equal(b, base) || !slices.EqualFunc(list, records, bytes.Equal) {
		t.Fatalf("Open(%d blocks, %d): %v, %q, %q, %d; want %q, %q, %d", d.Blocks(), room, s != nil, told(b), toldAll(list), e, told(base), toldAll(records), fault)
	}
	if s != nil {
		checkNotBegun(t, s)
	}
	return s
}

// checkOpens sees to it that a store is opened with this base and these records, twice the same, and answers it.
func checkOpens(t *testing.T, d *disk.Disk, room int, base string, records ...string) *store.Store {
	t.Helper()
	checkOpen(t, d, room, []byte(base), bytesOf(records...), api.OK)
	return checkOpen(t, d, room, []byte(base), bytesOf(records...), api.OK)
}

func checkSave(t *testing.T, s *store.Store, base []byte, fault api.Errno) {
	t.Helper()
	if e := s.Save(base); e != fault {
		t.Fatalf("Save of %d bytes: %d, want %d", len(base), e, fault)
	}
}

func checkAppend(t *testing.T, s *store.Store, record []byte, fault api.Errno) {
	t.Helper()
	if e := s.Append(record); e != fault {
		t.Fatalf("Append of %d bytes: %d, want %d", len(record), e, fault)
	}
}

// appendAll appends texts.
func appendAll(t *testing.T, s *store.Store, texts ...string) {
	t.Helper()
	for _, text := range texts {
		checkAppend(t, s, []byte(text), api.OK)
	}
}

func checkState(t *testing.T, s *store.Store, begun bool, left int) {
	t.Helper()
	if b, n := s.Begun(), s.Left(); b != begun || n != left {
		t.Fatalf("begun %v, left %d; want %v, %d", b, n, begun, left)
	}
}

// tooMany is one byte more than a record may have.
var tooMany = make([]byte, api.MaxRecord+1)

// checkNotBegun sees to it that a store isn't begun, and takes nothing.
func checkNotBegun(t *testing.T, s *store.Store) {
	t.Helper()
	checkState(t, s, false, 0)
	for _, record := range [][]byte{nil, {}, []byte("a"), tooMany[:api.MaxRecord], tooMany} {
		checkAppend(t, s, record, api.ErrState)
	}
	checkState(t, s, false, 0)
}

// checkArmed sees to it that a disk goes down behind just so many calls more.
func checkArmed(t *testing.T, d *disk.Disk, left int) {
	t.Helper()
	for range left {
		must(t, d.Flush())
	}
	if e := d.Flush(); e != api.ErrDown {
		t.Fatalf("behind %d calls: %d", left, e)
	}
}

// told is a text as a failed test tells it, and toldAll several.
func told(b []byte) []byte { return b[:min(len(b), 40)] }

func toldAll(list [][]byte) []byte {
	out := []byte("(")
	for _, record := range list {
		out = append(append(append(out, '['), told(record)...), ']')
	}
	return append(out, ')')
}

func bytesOf(texts ...string) [][]byte {
	var list [][]byte
	for _, s := range texts {
		list = append(list, []byte(s))
	}
	return list
}

// lay writes bytes to the blocks of a disk from one on, and flushes.
func lay(t *testing.T, d *disk.Disk, from int, b []byte) {
	t.Helper()
	must(t, write(d, from, b))
	must(t, d.Flush())
}

// layText writes a text with its head to the slot of a snap of this room that its number says.
func layText(t *testing.T, d *disk.Disk, room int, n uint64, text string) {
	t.Helper()
	at := int(n%2) * (1 + room)
	lay(t, d, at, headFor(n, []byte(text)))
	lay(t, d, at+1, []byte(text))
}

func must(t *testing.T, e api.Errno) {
	t.Helper()
	if e != api.OK {
		t.Fatalf("%d, want OK", e)
	}
}

func shuffled(seed uint64) *rand.Rand { return rand.New(rand.NewPCG(seed, 18)) }

func textOf(r *rand.Rand, n int) []byte {
	out := make([]byte, n)
	for i := range out {
		out[i] = byte(r.Uint32())
	}
	return out
}

// lost, kept and torn are fates.
func lost() api.Fate      { return api.Fate{Kind: api.FLost} }
func kept() api.Fate      { return api.Fate{Kind: api.FKept} }
func torn(n int) api.Fate { return api.Fate{Kind: api.FTorn, Bytes: n} }
