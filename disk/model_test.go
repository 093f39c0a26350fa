package disk_test

import (
	"bytes"
	"math"
	"math/rand/v2"
	"slices"
	"testing"

	"regatta/api"
	"regatta/disk"
)

// event is a write: its block, its bytes, and how many of the block's first bytes it reached.
type event struct {
	at      int
	text    []byte
	reached int
}

// model is a disk that keeps all that ever happened to it, and knows a byte by looking backwards for the last event that reached it.
type model struct {
	blocks int
	past   []event // what is safe
	under  []event // what isn't yet
	armed  bool
	left   uint64
	down   bool
}

func (m *model) has(i int) bool { return slices.Contains(numbers(m.blocks), i) }

// numbers are the numbers of so many blocks.
func numbers(n int) []int {
	list := make([]int, n)
	for i := range list {
		list[i] = i
	}
	return list
}

// look is a block as the last of some events left it.
func look(events []event, at int) []byte {
	out := make([]byte, 128)
	for place := range out {
		for k := len(events) - 1; k >= 0; k-- {
			if x := events[k]; x.at == at && place < x.reached {
				if place < len(x.text) {
					out[place] = x.text[place]
				}
				break
			}
		}
	}
	return out
}

// goesDown counts a call that would be answered OK.
func (m *model) goesDown() bool {
	if !m.armed {
		return false
	}
	if m.left == 0 {
		m.down = true
		return true
	}
	m.left--
	return false
}

func (m *model) write(i int, b []byte) api.Errno {
	if m.down {
		return api.ErrDown
	}
	if !m.has(i) {
		return api.ErrBlock
	}
	if len(b) > 128 {
		return api.ErrBig
	}
	m.under = append(m.under, event{i, bytes.Clone(b), 128})
	if m.goesDown() {
		return api.ErrDown
	}
	return api.OK
}

func (m *model) read(i int) ([]byte, api.Errno) {
	if m.down {
		return nil, api.ErrDown
	}
	if !m.has(i) {
		return nil, api.ErrBlock
	}
	return look(slices.Concat(m.past, m.under), i), api.OK
}

func (m *model) safe(i int) ([]byte, api.Errno) {
	if !m.has(i) {
		return nil, api.ErrBlock
	}
	return look(m.past, i), api.OK
}

func (m *model) flush() api.Errno {
	if m.down || m.goesDown() {
		return api.ErrDown
	}
	m.past = append(m.past, m.under...)
	m.under = nil
	return api.OK
}

func (m *model) arm(n int) {
	m.armed = n >= 0
	m.left = uint64(max(n, 0))
}

func (m *model) crash(fates []api.Fate) {
	for k, x := range m.under {
		if k >= len(fates) {
			break
		}
		switch f := fates[k]; {
		case f.Kind == 1:
			m.past = append(m.past, x)
		case f.Kind == 2 && f.Bytes > 0:
			x.reached = min(f.Bytes, 128)
			m.past = append(m.past, x)
		}
	}
	m.under, m.armed, m.left, m.down = nil, false, 0, false
}

// pair is a disk, and the model that it is held against.
type pair struct {
	t *testing.T
	d *disk.Disk
	m *model
}

// made is a new disk of so many blocks.
func made(t *testing.T, blocks int) *disk.Disk {
	t.Helper()
	d, e := disk.New(blocks)
	if e != api.OK || d == nil {
		t.Fatalf("New(%d): %v, %d", blocks, d, e)
	}
	return d
}

func newPair(t *testing.T, blocks int) pair {
	t.Helper()
	return pair{t, made(t, blocks), &model{blocks: blocks}}
}

func (p pair) write(i int, b []byte) {
	p.t.Helper()
	want := p.m.write(i, b)
	if e := p.d.Write(i, b); e != want {
		p.t.Fatalf("Write(%d, %q): %d, want %d", i, b, e, want)
	}
	p.check()
}

func (p pair) flush() {
	p.t.Helper()
	want := p.m.flush()
	if e := p.d.Flush(); e != want {
		p.t.Fatalf("Flush: %d, want %d", e, want)
	}
	p.check()
}

func (p pair) arm(n int) {
	p.t.Helper()
	p.m.arm(n)
	p.d.Arm(n)
	p.check()
}

func (p pair) crash(fates ...api.Fate) {
	p.t.Helper()
	p.m.crash(fates)
	if e := p.d.Crash(fates); e != api.OK {
		p.t.Fatalf("Crash(%v): %d", fates, e)
	}
	p.check()
}

// check sees to it that all that can be asked of the disk is as the model has it.
func (p pair) check() {
	p.t.Helper()
	checkState(p.t, p.d, p.m.blocks, p.m.down, p.under())
	for i := -1; i <= p.m.blocks; i++ {
		p.checkBlock(i)
	}
	for _, i := range []int{math.MinInt, math.MaxInt, p.m.blocks + 1, 1 << 32, -1 << 32} {
		p.checkBlock(i)
	}
}

func (p pair) under() []int {
	var list []int
	for _, x := range p.m.under {
		list = append(list, x.at)
	}
	return list
}

func (p pair) checkBlock(i int) {
	p.t.Helper()
	want, fault := p.m.read(i)
	checkAnswer(p.t, "Read", p.d.Read, i, want, fault)
	want, fault = p.m.safe(i)
	checkAnswer(p.t, "Safe", p.d.Safe, i, want, fault)
}

// checkAnswer sees to it that one of the calls that tell a block answers these bytes, or this error and no bytes.
func checkAnswer(t *testing.T, name string, call func(int) ([]byte, api.Errno), i int, want []byte, fault api.Errno) {
	t.Helper()
	if b, e := call(i); e != fault || !bytes.Equal(b, want) {
		t.Fatalf("%s(%d): %d bytes, %q, %d; want %d, %q, %d", name, i, len(b), told(b), e, len(want), told(want), fault)
	}
}

// told is a block as a failed test tells it: without the noughts at its end.
func told(b []byte) []byte { return bytes.TrimRight(b, "\x00") }

func checkState(t *testing.T, d *disk.Disk, blocks int, down bool, under []int) {
	t.Helper()
	if d.Blocks() != blocks || d.Down() != down || !slices.Equal(d.Under(), under) {
		t.Fatalf("%d blocks, down %v, under way %v; want %d, %v, %v", d.Blocks(), d.Down(), d.Under(), blocks, down, under)
	}
}

// checkBlocks sees to it that this is read of the blocks from 0 on, and safe of them, each a text with noughts behind it.
func checkBlocks(t *testing.T, d *disk.Disk, texts ...string) {
	t.Helper()
	checkRead(t, d, texts...)
	checkSafe(t, d, texts...)
}

func checkRead(t *testing.T, d *disk.Disk, texts ...string) {
	t.Helper()
	for i, s := range texts {
		checkAnswer(t, "Read", d.Read, i, filled(s), api.OK)
	}
}

func checkSafe(t *testing.T, d *disk.Disk, texts ...string) {
	t.Helper()
	for i, s := range texts {
		checkAnswer(t, "Safe", d.Safe, i, filled(s), api.OK)
	}
}

// filled is a text with noughts behind it, as a block.
func filled(s string) []byte {
	return append([]byte(s), make([]byte, 128-len(s))...)
}

// must sees to it that a call is answered OK.
func must(t *testing.T, e api.Errno) {
	t.Helper()
	checkFault(t, e, api.OK)
}

func checkFault(t *testing.T, e, want api.Errno) {
	t.Helper()
	if e != want {
		t.Fatalf("%d, want %d", e, want)
	}
}

func shuffled(seed uint64) *rand.Rand { return rand.New(rand.NewPCG(seed, 15)) }

func textOf(r *rand.Rand, n int) []byte {
	out := make([]byte, n)
	for i := range out {
		out[i] = byte(r.Uint32())
	}
	return out
}

// lost, kept and torn are fates.
func lost() api.Fate      { return api.Fate{Kind: api.FLost} }
func kept() api.Fate      { return api.Fate{Kind: api.FKept} }
func torn(n int) api.Fate { return api.Fate{Kind: api.FTorn, Bytes: n} }

// oddFates are fates of kinds that there aren't.
func oddFates() []api.Fate {
	var list []api.Fate
	for _, kind := range []int{-1, -2, 3, 4, 255, 256, 257, 258, 1<<32 + 1, 1<<32 + 2, math.MinInt, math.MinInt + 1, math.MinInt + 2, math.MaxInt} {
		list = append(list, api.Fate{Kind: kind}, api.Fate{Kind: kind, Bytes: 5}, api.Fate{Kind: kind, Bytes: 128})
	}
	return list
}
