package msg_test

import (
	"bytes"
	"encoding/binary"
	"encoding/hex"
	"hash/crc32"
	"math"
	"math/rand/v2"
	"slices"
	"strings"
	"testing"

	"regatta/api"
	"regatta/frame"
	"regatta/msg"
)

const (
	most     = api.MaxPayload / 2 // bytes of Data
	mostInc  = 1<<31 - 1
	numbered = "From Inc Round H Part Parts" // the fields that are numbers
)

// table is the chapter's: the fields of the kinds from 1 on, in the order of the payload.
func table() []string {
	return []string{"From Inc", "Round H Parts", "From Inc Round Part", "Round Part Parts Data", "From Inc Round Part Parts Data", "Inc Round Part", "Inc Round", "From Inc"}
}

// namesOf are the names of a kind's fields, none for a kind that there isn't.
func namesOf(kind int) []string {
	if kind < 1 || kind > len(table()) {
		return nil
	}
	return strings.Fields(table()[kind-1])
}

// uses says whether a kind uses a field.
func uses(kind int, name string) bool { return slices.Contains(namesOf(kind), name) }

// spot is where a number of a message lies.
func spot(m *api.Message, name string) *int {
	switch name {
	case "From":
		return &m.From
	case "Inc":
		return &m.Inc
	case "Round":
		return &m.Round
	case "H":
		return &m.H
	case "Part":
		return &m.Part
	case "Parts":
		return &m.Parts
	}
	return nil
}

// with is a message, one of whose numbers is another.
func with(m api.Message, name string, n int) api.Message {
	*spot(&m, name) = n
	return m
}

func same(a, b api.Message) bool {
	return a.Kind == b.Kind && a.From == b.From && a.Inc == b.Inc && a.Round == b.Round && a.H == b.H && a.Part == b.Part && a.Parts == b.Parts && bytes.Equal(a.Data, b.Data)
}

// isFrom to isParts are the ranges of the chapter.
func isFrom(m api.Message) bool  { return m.From >= 1 && m.From <= 64 }
func isInc(m api.Message) bool   { return m.Inc >= 0 && m.Inc <= 2147483647 }
func isRound(m api.Message) bool { return m.Round >= 0 && m.Round <= 256 }
func isInner(m api.Message) bool { return m.H >= 1 && m.H <= 64 }
func isPart(m api.Message) bool  { return m.Part >= 0 && m.Part <= 1023 }
func isParts(m api.Message) bool { return m.Parts >= 1 && m.Parts <= 1024 }
func isPartOf(m api.Message) bool {
	return isParts(m) && m.Part >= 0 && m.Part < m.Parts && len(m.Data) <= 32768
}

// modelRight is Right kind by kind: its fields are in their ranges, and a message that has just these is the same.
func modelRight(m api.Message) bool {
	just := api.Message{Kind: m.Kind}
	switch m.Kind {
	case 1, 8:
		just.From, just.Inc = m.From, m.Inc
		return same(m, just) && isFrom(m) && isInc(m)
	case 2:
		just.Round, just.H, just.Parts = m.Round, m.H, m.Parts
		return same(m, just) && isRound(m) && isInner(m) && isParts(m)
	case 3:
		just.From, just.Inc, just.Round, just.Part = m.From, m.Inc, m.Round, m.Part
		return same(m, just) && isFrom(m) && isInc(m) && isRound(m) && isPart(m)
	case 4:
		return m.From == 0 && m.Inc == 0 && m.H == 0 && isRound(m) && isPartOf(m)
	case 5:
		return m.H == 0 && isFrom(m) && isInc(m) && isRound(m) && isPartOf(m)
	case 6:
		just.Inc, just.Round, just.Part = m.Inc, m.Round, m.Part
		return same(m, just) && isInc(m) && isRound(m) && isPart(m)
	case 7:
		just.Inc, just.Round = m.Inc, m.Round
		return same(m, just) && isInc(m) && isRound(m)
	}
	return false
}

// payloadOf is the fields of a message's kind as bytes, right or not, by the library.
func payloadOf(m api.Message) []byte {
	var out []byte
	for _, name := range namesOf(m.Kind) {
		if name == "Data" {
			out = append(binary.AppendUvarint(out, uint64(len(m.Data))), m.Data...)
		} else {
			out = binary.AppendVarint(out, int64(*spot(&m, name)))
		}
	}
	return out
}

// frameOf is the form of a frame, its sum made by the library.
func frameOf(kind int, payload []byte) []byte {
	out := []byte{0x52, 0x47, 1, byte(kind)}
	out = binary.LittleEndian.AppendUint32(out, uint32(len(payload)))
	out = append(out, payload...)
	return binary.LittleEndian.AppendUint32(out, crc32.ChecksumIEEE(out))
}

// formOf is a message as bytes, right or not.
func formOf(m api.Message) []byte { return frameOf(m.Kind, payloadOf(m)) }

// modelPayload is the message that a payload is: its fields are read however they are written, and whether they were written as they must be is known by making the payload anew.
func modelPayload(kind int, payload []byte) (api.Message, api.Errno) {
	m := api.Message{Kind: kind}
	left := payload
	for _, name := range namesOf(kind) {
		if name == "Data" {
			n, long := binary.Uvarint(left)
			if long <= 0 || n > uint64(len(left)-long) {
				return api.Message{}, api.ErrMessage
			}
			m.Data, left = left[long:long+int(n)], left[long+int(n):]
			continue
		}
		n, long := binary.Varint(left)
		if long <= 0 {
			return api.Message{}, api.ErrMessage
		}
		*spot(&m, name), left = int(n), left[long:]
	}
	if !modelRight(m) || !bytes.Equal(payloadOf(m), payload) {
		return api.Message{}, api.ErrMessage
	}
	return m, api.OK
}

// modelDecode is Decode by layer 13's Open and modelPayload.
func modelDecode(b []byte) (api.Message, api.Errno) {
	f, n, e := frame.Open(b)
	if e != api.OK {
		return api.Message{}, e
	}
	if n != len(b) {
		return api.Message{}, api.ErrLeft
	}
	return modelPayload(f.Kind, f.Payload)
}

// told is a message as a failed test tells it.
func told(m api.Message) api.Message {
	m.Data = short(m.Data)
	return m
}

// short is bytes as a failed test tells them.
func short(b []byte) []byte { return b[:min(len(b), 80)] }

// checkRight sees to it that a message is right, is encoded in its form, and is decoded as it was.
func checkRight(t *testing.T, m api.Message) {
	t.Helper()
	if !msg.Right(m) {
		t.Fatalf("%v isn't right", told(m))
	}
	b, e := msg.Encode(m)
	if e != api.OK || !bytes.Equal(b, formOf(m)) {
		t.Fatalf("Encode(%v): %x, %d, want %x", told(m), short(b), e, short(formOf(m)))
	}
	checkDecoded(t, b, m)
}

// checkWrong sees to it that a message isn't right, and isn't encoded.
func checkWrong(t *testing.T, m api.Message) {
	t.Helper()
	if msg.Right(m) {
		t.Fatalf("%v is right", told(m))
	}
	if b, e := msg.Encode(m); len(b) > 0 || e != api.ErrMessage {
		t.Fatalf("Encode(%v): %x, %d", told(m), short(b), e)
	}
}

// checkDecoded sees to it that bytes are decoded as a message, and encoded again as they were.
func checkDecoded(t *testing.T, b []byte, want api.Message) {
	t.Helper()
	m, e := msg.Decode(b)
	if e != api.OK || !same(m, want) {
		t.Fatalf("Decode(%x): %v, %d, want %v", short(b), told(m), e, told(want))
	}
	if again, e := msg.Encode(m); e != api.OK || !bytes.Equal(again, b) {
		t.Fatalf("%x is encoded again as %x, %d", short(b), short(again), e)
	}
}

// checkFault sees to it that Decode answers an error, and nothing beside it.
func checkFault(t *testing.T, b []byte, want api.Errno) {
	t.Helper()
	if m, e := msg.Decode(b); e != want || !same(m, api.Message{}) {
		t.Fatalf("Decode(%x): %v, %d, want %d", short(b), told(m), e, want)
	}
}

// checkAny holds a message against the model.
func checkAny(t *testing.T, m api.Message) {
	t.Helper()
	if modelRight(m) {
		checkRight(t, m)
	} else {
		checkWrong(t, m)
	}
}

// checkBytes holds what is read of bytes against the model.
func checkBytes(t *testing.T, b []byte) {
	t.Helper()
	if m, e := modelDecode(b); e == api.OK {
		checkDecoded(t, b, m)
	} else {
		checkFault(t, b, e)
	}
}

func shuffled(seed uint64) *rand.Rand { return rand.New(rand.NewPCG(seed, 14)) }

func textOf(r *rand.Rand, n int) []byte {
	out := make([]byte, n)
	for i := range out {
		out[i] = byte(r.Uint32())
	}
	return out
}

// middles are right messages, one of each kind, no number of which is at an end of its range.
func middles() []api.Message {
	return []api.Message{
		{Kind: api.MJoin, From: 3, Inc: 1},
		{Kind: api.MTell, Round: 4, H: 2, Parts: 3},
		{Kind: api.MFetch, From: 2, Inc: 7, Round: 5, Part: 100},
		{Kind: api.MPart, Round: 9, Part: 2, Parts: 5, Data: []byte("part")},
		{Kind: api.MDelta, From: 5, Inc: 300, Round: 200, Part: 1, Parts: 3, Data: []byte("delta")},
		{Kind: api.MAck, Inc: 4, Round: 30, Part: 8},
		{Kind: api.MResend, Inc: 2, Round: 1},
		{Kind: api.MLeave, From: 63, Inc: 1000000},
	}
}

// endsOf are the ends of a field's range in a message of its kind.
func endsOf(m api.Message, name string) (least, most int) {
	switch name {
	case "From":
		return 1, api.MaxWorkers
	case "Inc":
		return 0, mostInc
	case "Round":
		return 0, api.MaxRounds
	case "H":
		return 1, api.MaxInner
	case "Part":
		if uses(m.Kind, "Parts") {
			return 0, m.Parts - 1
		}
		return 0, api.MaxParts - 1
	}
	if uses(m.Kind, "Part") {
		return m.Part + 1, api.MaxParts
	}
	return 1, api.MaxParts
}

// drawn is a right message of a kind, its numbers at the ends of their ranges or between them.
func drawn(r *rand.Rand, kind int) api.Message {
	m := api.Message{Kind: kind}
	for _, name := range []string{"From", "Inc", "Round", "H", "Parts", "Part"} {
		if !uses(kind, name) {
			continue
		}
		least, most := endsOf(m, name)
		if name == "Parts" {
			least = 1
		}
		*spot(&m, name) = []int{least, most, least + r.IntN(most-least+1), least + r.IntN(min(most-least, 9)+1)}[r.IntN(4)]
	}
	if uses(kind, "Data") {
		m.Data = textOf(r, []int{0, 1, r.IntN(200), r.IntN(20)}[r.IntN(4)])
	}
	return m
}

// oddNumbers are numbers beyond all ranges, and some that would be in them if bits of theirs were lost.
func oddNumbers() []int {
	return []int{-1, -2, -3, -64, -1024, -65536, math.MinInt, math.MinInt + 1, math.MinInt32, math.MinInt32 - 1, mostInc + 1, 1 << 32, 1<<32 + 1, 1<<33 + 2, -1<<32 + 1, math.MinInt64 + 3, math.MaxInt, math.MaxInt - 1}
}

// known are messages whose bytes were reckoned outside of the program.
func known() []struct {
	m    api.Message
	form string
} {
	return []struct {
		m    api.Message
		form string
	}{
		{api.Message{Kind: api.MJoin, From: 3, Inc: 1}, "52470101020000000602463cd97b"},
		{api.Message{Kind: api.MJoin, From: 64, Inc: mostInc}, "52470101070000008001feffffff0f888ef86d"},
		{api.Message{Kind: api.MTell, Round: 4, H: 2, Parts: 3}, "5247010203000000080406faf199d0"},
		{api.Message{Kind: api.MTell, Round: 256, H: 64, Parts: 1024}, "5247010206000000800480018010d6826838"},
		{api.Message{Kind: api.MFetch, From: 1, Part: 1023}, "5247010305000000020000fe0f89393722"},
		{api.Message{Kind: api.MPart, Round: 7, Parts: 1}, "52470104040000000e000200e92f6bb0"},
		{api.Message{Kind: api.MPart, Part: 1, Parts: 2, Data: []byte("abc")}, "524701040700000000020403616263f9cc8b42"},
		{api.Message{Kind: api.MDelta, From: 1, Inc: 2, Round: 3, Part: 1, Parts: 2, Data: []byte("d")}, "524701050700000002040602040164abe23cc4"},
		{api.Message{Kind: api.MDelta, From: 64, Inc: mostInc, Round: 256, Part: 1023, Parts: 1024, Data: []byte("regatta")}, "52470105150000008001feffffff0f8004fe0f801007726567617474613d32ef94"},
		{api.Message{Kind: api.MAck, Inc: 5, Round: 200, Part: 64}, "52470106050000000a900380018e9f6c1d"},
		{api.Message{Kind: api.MResend, Inc: 2, Round: 1}, "52470107020000000402fe6b3f2a"},
		{api.Message{Kind: api.MLeave, From: 64}, "52470108030000008001007af66b3a"},
	}
}

// unhexed is a text of digits to the base 16 as bytes.
func unhexed(t *testing.T, s string) []byte {
	t.Helper()
	b, err := hex.DecodeString(s)
	if err != nil {
		t.Fatal(err)
	}
	return b
}

// The model is held against what was reckoned outside of it too.
func TestModelOfKnownMessages(t *testing.T) {
	for _, k := range known() {
		b := unhexed(t, k.form)
		if !modelRight(k.m) || !bytes.Equal(formOf(k.m), b) {
			t.Errorf("%v: %x, want %s", k.m, formOf(k.m), k.form)
		}
		if m, e := modelDecode(b); e != api.OK || !same(m, k.m) {
			t.Errorf("%s: %v, %d", k.form, m, e)
		}
	}
}
