package link_test

import (
	"bytes"
	"math"
	"math/rand/v2"
	"slices"
	"testing"

	"regatta/api"
	"regatta/link"
)

// item is a message that waits, and from whom to whom.
type item struct {
	from, to int
	text     []byte
}

// model is a line that keeps all that waits in one list, in the order in which it came, and finds a row's messages by going through it.
type model struct {
	nodes, most int
	all         []item
}

// places are where the messages of a row are in the list.
func (m *model) places(from, to int) []int {
	var list []int
	for k, x := range m.all {
		if x.from == from && x.to == to {
			list = append(list, k)
		}
	}
	return list
}

func (m *model) noNode(from, to int) bool {
	return from < 0 || from > m.nodes-1 || to < 0 || to > m.nodes-1 || from == to
}

// place is where a message is in the list.
func (m *model) place(from, to, i int) (int, api.Errno) {
	if m.noNode(from, to) {
		return 0, api.ErrNode
	}
	for k, at := range m.places(from, to) {
		if k == i {
			return at, api.OK
		}
	}
	return 0, api.ErrPlace
}

func (m *model) send(from, to int, b []byte) api.Errno {
	if m.noNode(from, to) {
		return api.ErrNode
	}
	if len(b) > 65548 {
		return api.ErrBig
	}
	if len(m.places(from, to)) == m.most {
		return api.ErrFull
	}
	m.all = append(m.all, item{from, to, bytes.Clone(b)})
	return api.OK
}

func (m *model) take(from, to, i int) ([]byte, api.Errno) {
	at, e := m.place(from, to, i)
	if e != api.OK {
		return nil, e
	}
	text := m.all[at].text
	m.all = slices.Concat(m.all[:at], m.all[at+1:])
	return text, api.OK
}

func (m *model) double(from, to, i int) api.Errno {
	at, e := m.place(from, to, i)
	if e != api.OK {
		return e
	}
	if len(m.places(from, to)) == m.most {
		return api.ErrFull
	}
	m.all = append(m.all, item{from, to, bytes.Clone(m.all[at].text)})
	return api.OK
}

func (m *model) flip(from, to, i, bit int) api.Errno {
	at, e := m.place(from, to, i)
	if e != api.OK {
		return e
	}
	for k, x := range m.all[at].text {
		for low, mask := range []byte{1, 2, 4, 8, 16, 32, 64, 128} {
			if 8*k+low == bit {
				m.all[at].text[k] = x ^ mask
				return api.OK
			}
		}
	}
	return api.ErrArg
}

func (m *model) next(to int) (int, bool) {
	least := -1
	for _, x := range m.all {
		if x.to == to && (least < 0 || x.from < least) {
			least = x.from
		}
	}
	return max(least, 0), least >= 0
}

func (m *model) bytes() int {
	sum := 0
	for _, x := range m.all {
		sum += len(x.text)
	}
	return sum
}

// pair is a line, and the model that it is held against.
type pair struct {
	t *testing.T
	n *link.Net
	m *model
}

// made is a new line.
func made(t *testing.T, nodes, most int) *link.Net {
	t.Helper()
	n, e := link.New(nodes, most)
	if e != api.OK || n == nil {
		t.Fatalf("New(%d, %d): %v, %d", nodes, most, n, e)
	}
	return n
}

func newPair(t *testing.T, nodes, most int) pair {
	t.Helper()
	return pair{t, made(t, nodes, most), &model{nodes: nodes, most: most}}
}

func (p pair) send(from, to int, b []byte) {
	p.t.Helper()
	want := p.m.send(from, to, b)
	if e := p.n.Send(from, to, b); e != want {
		p.t.Fatalf("Send(%d, %d, %d bytes): %d, want %d", from, to, len(b), e, want)
	}
	p.check()
}

func (p pair) take(from, to, i int) {
	p.t.Helper()
	text, want := p.m.take(from, to, i)
	checkTake(p.t, p.n, from, to, i, string(text), want)
	p.check()
}

func (p pair) drop(from, to, i int) {
	p.t.Helper()
	_, want := p.m.take(from, to, i)
	if e := p.n.Drop(from, to, i); e != want {
		p.t.Fatalf("Drop(%d, %d, %d): %d, want %d", from, to, i, e, want)
	}
	p.check()
}

func (p pair) double(from, to, i int) {
	p.t.Helper()
	want := p.m.double(from, to, i)
	if e := p.n.Double(from, to, i); e != want {
		p.t.Fatalf("Double(%d, %d, %d): %d, want %d", from, to, i, e, want)
	}
	p.check()
}

func (p pair) flip(from, to, i, bit int) {
	p.t.Helper()
	want := p.m.flip(from, to, i, bit)
	if e := p.n.Flip(from, to, i, bit); e != want {
		p.t.Fatalf("Flip(%d, %d, %d, %d): %d, want %d", from, to, i, bit, e, want)
	}
	p.check()
}

// check sees to it that all that the line tells without being changed is as the model has it.
func (p pair) check() {
	p.t.Helper()
	for to := -1; to <= p.m.nodes; to++ {
		for from := -1; from <= p.m.nodes; from++ {
			checkWaits(p.t, p.n, from, to, len(p.m.places(from, to)))
		}
		from, ok := p.m.next(to)
		checkNext(p.t, p.n, to, from, ok)
	}
	checkBytes(p.t, p.n, p.m.bytes())
}

// checkTexts sees to it that each message is as the model has it. Each row is gone round once, and is then as it was.
func (p pair) checkTexts() {
	p.t.Helper()
	for from := range p.m.nodes {
		for to := range p.m.nodes {
			var texts []string
			for _, at := range p.m.places(from, to) {
				texts = append(texts, string(p.m.all[at].text))
			}
			checkRow(p.t, p.n, from, to, texts...)
		}
	}
	p.check()
}

// checkRow sees to it that just these messages wait in a row. Each is taken and sent again, so that the row is as it was.
func checkRow(t *testing.T, n *link.Net, from, to int, texts ...string) {
	t.Helper()
	checkWaits(t, n, from, to, len(texts))
	for _, s := range texts {
		checkTake(t, n, from, to, 0, s, api.OK)
		must(t, n.Send(from, to, []byte(s)))
	}
}

func checkTake(t *testing.T, n *link.Net, from, to, i int, want string, fault api.Errno) {
	t.Helper()
	if b, e := n.Take(from, to, i); e != fault || string(b) != want {
		t.Fatalf("Take(%d, %d, %d): %d bytes, %q, %d; want %d, %q, %d", from, to, i, len(b), b[:min(len(b), 50)], e, len(want), want[:min(len(want), 50)], fault)
	}
}

func checkWaits(t *testing.T, n *link.Net, from, to, want int) {
	t.Helper()
	if k := n.Waits(from, to); k != want {
		t.Fatalf("Waits(%d, %d): %d, want %d", from, to, k, want)
	}
}

func checkNext(t *testing.T, n *link.Net, to, want int, there bool) {
	t.Helper()
	if from, ok := n.Next(to); from != want || ok != there {
		t.Fatalf("Next(%d): %d, %v; want %d, %v", to, from, ok, want, there)
	}
}

func checkBytes(t *testing.T, n *link.Net, want int) {
	t.Helper()
	if k := n.Bytes(); k != want {
		t.Fatalf("Bytes: %d, want %d", k, want)
	}
}

// must sees to it that a call is answered OK.
func must(t *testing.T, e api.Errno) {
	t.Helper()
	checkFault(t, e, api.OK)
}

func checkFault(t *testing.T, e, want api.Errno) {
	t.Helper()
	if e != want {
		t.Fatalf("%d, want %d", e, want)
	}
}

// sendAll sends messages one behind the other.
func sendAll(t *testing.T, n *link.Net, from, to int, texts ...string) {
	t.Helper()
	for _, s := range texts {
		must(t, n.Send(from, to, []byte(s)))
	}
}

// ends are numbers about the ends of what an int holds, and about those of fewer bits.
func ends() []int {
	return []int{math.MinInt, math.MinInt + 1, -1 << 32, -1<<32 + 1, -256, -255, -2, -1, 256, 257, 1 << 32, 1<<32 + 1, math.MaxInt - 1, math.MaxInt}
}

func shuffled(seed uint64) *rand.Rand { return rand.New(rand.NewPCG(seed, 19)) }

func textOf(r *rand.Rand, n int) []byte {
	out := make([]byte, n)
	for i := range out {
		out[i] = byte(r.Uint32())
	}
	return out
}
