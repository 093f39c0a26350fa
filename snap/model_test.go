package snap_test

import (
	"bytes"
	"encoding/binary"
	"hash/crc32"
	"math/rand/v2"
	"slices"
	"testing"

	"regatta/api"
	"regatta/disk"
	"regatta/snap"
)

// crafted is what a head's block says, by the chapter's words: each of its numbers may be another than a text's.
type crafted struct {
	number, length uint64
	textSum        uint32
	turned         uint32 // laid over the sum of what is ahead of it
	again          uint64
	between        byte
}

// headFor is what the head of a text says.
func headFor(n uint64, text []byte) crafted {
	return crafted{number: n, length: uint64(len(text)), textSum: crc32.ChecksumIEEE(text), again: n}
}

func (c crafted) block() []byte {
	b := binary.LittleEndian.AppendUint64(nil, c.number)
	b = binary.LittleEndian.AppendUint64(b, c.length)
	b = binary.LittleEndian.AppendUint32(b, c.textSum)
	b = binary.LittleEndian.AppendUint32(b, crc32.ChecksumIEEE(b)^c.turned)
	b = append(b, bytes.Repeat([]byte{c.between}, 96)...)
	return binary.LittleEndian.AppendUint64(b, c.again)
}

// model is a snap that goes by the chapter's words alone.
type model struct {
	d        *disk.Disk
	at, room int
}

// blocks is what is read of some blocks, one behind the other.
func (m model) blocks(from, n int) []byte {
	var out []byte
	for i := range n {
		b, _ := m.d.Read(from + i)
		out = append(out, b...)
	}
	return out
}

// slot is the text of a slot, and its number; or 0, if it isn't whole.
func (m model) slot(which int) ([]byte, uint64) {
	all := m.blocks(m.at+which*(1+m.room), 1+m.room)
	n, last := binary.LittleEndian.Uint64(all), binary.LittleEndian.Uint64(all[120:])
	length := binary.LittleEndian.Uint64(all[8:])
	if n != last || n == 0 || n > 1<<62 || n%2 != uint64(which) || length > uint64(m.room)*128 {
		return nil, 0
	}
	text := all[128 : 128+length]
	if binary.LittleEndian.Uint32(all[16:]) != crc32.ChecksumIEEE(text) || binary.LittleEndian.Uint32(all[20:]) != crc32.ChecksumIEEE(all[:20]) {
		return nil, 0
	}
	return text, n
}

func (m model) load() ([]byte, int, api.Errno) {
	if m.d.Down() {
		return nil, 0, api.ErrDown
	}
	even, e := m.slot(0)
	odd, o := m.slot(1)
	switch {
	case e == 0 && o == 0:
		return nil, 0, api.ErrNone
	case e > o:
		return even, int(e), api.OK
	}
	return odd, int(o), api.OK
}

func (m model) save(data []byte) (int, api.Errno) {
	if len(data) > m.room*128 {
		return 0, api.ErrRoom
	}
	if m.d.Down() {
		return 0, api.ErrDown
	}
	_, n, _ := m.load()
	if n >= 1<<62 {
		return 0, api.ErrBig
	}
	n++
	head := m.at + n%2*(1+m.room)
	for i := 0; i*128 < len(data); i++ {
		if e := m.d.Write(head+1+i, data[i*128:min(len(data), i*128+128)]); e != api.OK {
			return 0, e
		}
	}
	if e := m.d.Flush(); e != api.OK {
		return 0, e
	}
	if e := m.d.Write(head, headFor(uint64(n), data).block()); e != api.OK {
		return 0, e
	}
	if e := m.d.Flush(); e != api.OK {
		return 0, e
	}
	return n, api.OK
}

// pair is a snap, and the model that it is held against: each has a disk of its own, to which the same befalls.
type pair struct {
	t *testing.T
	d *disk.Disk
	s *snap.Snap
	m model
}

func newPair(t *testing.T, blocks, at, room int) pair {
	t.Helper()
	d := madeDisk(t, blocks)
	return pair{t, d, made(t, d, at, room), model{madeDisk(t, blocks), at, room}}
}

// both lets something befall both disks.
func (p pair) both(f func(d *disk.Disk)) {
	p.t.Helper()
	f(p.d)
	f(p.m.d)
	p.check()
}

func (p pair) load() {
	p.t.Helper()
	data, n, e := p.m.load()
	checkLoad(p.t, p.s, data, n, e)
	p.check()
}

func (p pair) save(data []byte) {
	p.t.Helper()
	n, e := p.m.save(data)
	checkSave(p.t, p.s, data, n, e)
	p.check()
}

// check sees to it that both disks are alike.
func (p pair) check() {
	p.t.Helper()
	checkAlike(p.t, p.d, p.m.d)
}

func checkAlike(t *testing.T, d, want *disk.Disk) {
	t.Helper()
	if d.Down() != want.Down() || !slices.Equal(d.Under(), want.Under()) {
		t.Fatalf("down %v, under way %v; want %v, %v", d.Down(), d.Under(), want.Down(), want.Under())
	}
	for i := range want.Blocks() {
		safe, _ := d.Safe(i)
		wanted, _ := want.Safe(i)
		if !bytes.Equal(safe, wanted) {
			t.Fatalf("safe of block %d: %q, want %q", i, told(safe), told(wanted))
		}
		read, _ := d.Read(i)
		wanted, _ = want.Read(i)
		if !bytes.Equal(read, wanted) {
			t.Fatalf("block %d: %q, want %q", i, told(read), told(wanted))
		}
	}
}

// told is a text as a failed test tells it.
func told(b []byte) []byte {
	b = bytes.TrimRight(b, "\x00")
	return b[:min(len(b), 200)]
}

func madeDisk(t *testing.T, blocks int) *disk.Disk {
	t.Helper()
	d, e := disk.New(blocks)
	if e != api.OK {
		t.Fatalf("a disk of %d blocks: %d", blocks, e)
	}
	return d
}

func made(t *testing.T, d *disk.Disk, at, room int) *snap.Snap {
	t.Helper()
	s, e := snap.New(d, at, room)
	if e != api.OK || s == nil {
		t.Fatalf("New(%d blocks, %d, %d): %v, %d", d.Blocks(), at, room, s, e)
	}
	return s
}

// fresh is a new disk that has just so many blocks as a snap of this room needs, and that snap.
func fresh(t *testing.T, room int) (*disk.Disk, *snap.Snap) {
	t.Helper()
	d := madeDisk(t, 2*(1+room))
	return d, made(t, d, 0, room)
}

func checkLoad(t *testing.T, s *snap.Snap, data []byte, n int, fault api.Errno) {
	t.Helper()
	b, k, e := s.Load()
	if e != fault || k != n || !bytes.Equal(b, data) {
		t.Fatalf("Load: %d bytes, %q, %d, %d; want %d, %q, %d, %d", len(b), told(b), k, e, len(data), told(data), n, fault)
	}
}

func checkSave(t *testing.T, s *snap.Snap, data []byte, n int, fault api.Errno) {
	t.Helper()
	if k, e := s.Save(data); k != n || e != fault {
		t.Fatalf("Save of %d bytes: %d, %d; want %d, %d", len(data), k, e, n, fault)
	}
}

// checkArmed sees to it that a disk goes down behind just so many calls more.
func checkArmed(t *testing.T, d *disk.Disk, left int) {
	t.Helper()
	for range left {
		must(t, d.Flush())
	}
	if e := d.Flush(); e != api.ErrDown {
		t.Fatalf("behind %d calls: %d", left, e)
	}
}

// imageOf is what is read of all blocks of a disk.
func imageOf(d *disk.Disk) []byte {
	return model{d: d}.blocks(0, d.Blocks())
}

// lay writes bytes to the blocks of a disk from one on, and flushes.
func lay(t *testing.T, d *disk.Disk, from int, b []byte) {
	t.Helper()
	for piece := range slices.Chunk(b, 128) {
		must(t, d.Write(from, piece))
		from++
	}
	must(t, d.Flush())
}

// layText writes a text with its head to the slot that begins at a block, whatever the number.
func layText(t *testing.T, d *disk.Disk, at int, n uint64, text string) {
	t.Helper()
	lay(t, d, at, headFor(n, []byte(text)).block())
	lay(t, d, at+1, []byte(text))
}

func must(t *testing.T, e api.Errno) {
	t.Helper()
	if e != api.OK {
		t.Fatalf("%d, want OK", e)
	}
}

func shuffled(seed uint64) *rand.Rand { return rand.New(rand.NewPCG(seed, 16)) }

func textOf(r *rand.Rand, n int) []byte {
	out := make([]byte, n)
	for i := range out {
		out[i] = byte(r.Uint32())
	}
	return out
}

// lost, kept and torn are fates.
func lost() api.Fate      { return api.Fate{Kind: api.FLost} }
func kept() api.Fate      { return api.Fate{Kind: api.FKept} }
func torn(n int) api.Fate { return api.Fate{Kind: api.FTorn, Bytes: n} }
