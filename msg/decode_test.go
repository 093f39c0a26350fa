package msg_test

import (
	"bytes"
	"encoding/binary"
	"testing"

	"regatta/api"
)

// longMessages are right ones with as much Data as may be.
func longMessages() []api.Message {
	data := textOf(shuffled(20), most)
	return []api.Message{
		{Kind: api.MPart, Round: 256, Part: 1023, Parts: 1024, Data: data},
		{Kind: api.MDelta, From: 64, Inc: mostInc, Round: 256, Part: 1023, Parts: 1024, Data: data},
	}
}

// P14.2: of every beginning of a frame it is ErrShort, of the empty one too.
func TestDecodeOfEveryBeginning(t *testing.T) {
	checkFault(t, nil, api.ErrShort)
	for _, m := range append(middles(), longMessages()...) {
		b := formOf(m)
		for end := range b {
			checkFault(t, b[:end], api.ErrShort)
		}
		checkDecoded(t, b, m)
	}
}

// P14.2: each error of layer 13's Open is told as it is, whatever the payload, and with bytes behind it too.
func TestDecodeTellsOpensErrors(t *testing.T) {
	for _, payload := range [][]byte{{6, 2}, {}, {6}, {6, 2, 0}, {0, 0}, {0x86, 0}, []byte("junk")} {
		for _, c := range []struct {
			at   int
			x    byte
			want api.Errno
		}{{0, 'r', api.ErrMagic}, {1, 0x48, api.ErrMagic}, {2, 0, api.ErrVersion}, {2, 2, api.ErrVersion}, {3, 0, api.ErrKind}, {6, 2, api.ErrSize}, {7, 1, api.ErrSize}, {3, api.MTell, api.ErrSum}, {3, 9, api.ErrSum}, {5, 255, api.ErrShort}} {
			b := frameOf(api.MJoin, payload)
			b[c.at] = c.x
			checkFault(t, b, c.want)
			checkFault(t, append(b, 0, 1, 2), c.want)
		}
		b := frameOf(api.MJoin, payload)
		b[len(b)-1] ^= 1
		checkFault(t, b, api.ErrSum)
		checkFault(t, append(b, 0), api.ErrSum)
	}
	checkFault(t, frameOf(api.MPart, make([]byte, api.MaxPayload+1)), api.ErrSize)
}

// P14.2: bytes behind the frame are ErrLeft, however many, and whatever they and the frame are.
func TestDecodeWithBytesBehind(t *testing.T) {
	for _, m := range append(middles(), longMessages()...) {
		b := formOf(m)
		for _, behind := range [][]byte{{0}, {'R'}, {'x'}, formOf(m), formOf(m)[:9], make([]byte, 300)} {
			checkFault(t, append(bytes.Clone(b), behind...), api.ErrLeft)
		}
	}
	for _, none := range [][]byte{frameOf(1, nil), frameOf(1, []byte{6}), frameOf(1, []byte{0, 0}), frameOf(1, []byte{6, 2, 2}), frameOf(9, []byte{6, 2}), frameOf(255, nil), frameOf(4, make([]byte, api.MaxPayload))} {
		checkFault(t, none, api.ErrMessage)
		checkFault(t, append(none, 0), api.ErrLeft)
		checkFault(t, append(none, none...), api.ErrLeft)
	}
}

// fieldEnds are the places of a message's payload behind each of its fields.
func fieldEnds(m api.Message) []int {
	var ends []int
	at := 0
	for _, name := range namesOf(m.Kind) {
		if name == "Data" {
			at = len(payloadOf(m))
		} else {
			at += len(binary.AppendVarint(nil, int64(*spot(&m, name))))
		}
		ends = append(ends, at)
	}
	return ends
}

// P14.2: a payload of a field too few, of several, and cut off anywhere.
func TestDecodeOfPayloadsThatEndTooSoon(t *testing.T) {
	for _, m := range append(middles(), longMessages()...) {
		p := payloadOf(m)
		ends := fieldEnds(m)
		if ends[len(ends)-1] != len(p) {
			t.Fatal(ends, len(p))
		}
		for _, end := range ends[:len(ends)-1] {
			checkFault(t, frameOf(m.Kind, p[:end]), api.ErrMessage)
		}
		for end := range min(len(p), 300) {
			checkFault(t, frameOf(m.Kind, p[:end]), api.ErrMessage)
		}
		checkFault(t, frameOf(m.Kind, p[:len(p)-1]), api.ErrMessage)
	}
}

// P14.2: a payload of a field too many, or with any bytes left over.
func TestDecodeOfPayloadsWithBytesLeft(t *testing.T) {
	for _, m := range middles() {
		for _, left := range []string{"\x00", "\x02", "\x80", "\xff", "\x80\x00", "\x00\x00", "\x01x", "RG\x01"} {
			checkFault(t, frameOf(m.Kind, append(payloadOf(m), left...)), api.ErrMessage)
		}
		checkFault(t, frameOf(m.Kind, append(payloadOf(m), payloadOf(m)...)), api.ErrMessage)
	}
}

// P14.2: a field left out in the midst, or doubled.
func TestDecodeOfPayloadsWithAnotherField(t *testing.T) {
	for _, m := range middles() {
		p := payloadOf(m)
		from := 0
		for _, end := range fieldEnds(m) {
			checkBytes(t, frameOf(m.Kind, append(bytes.Clone(p[:from]), p[end:]...)))
			checkBytes(t, frameOf(m.Kind, append(bytes.Clone(p[:end]), p[from:]...)))
			from = end
		}
	}
}

// stretched is a number's form with noughts behind it, which its bytes say are to be read.
func stretched(form []byte, more int) []byte {
	out := bytes.Clone(form)
	for range more {
		out[len(out)-1] |= 0x80
		out = append(out, 0)
	}
	return out
}

// P14.2: a number, or the count ahead of Data, in a longer form than its own.
func TestDecodeOfLongerForms(t *testing.T) {
	for _, m := range middles() {
		p := payloadOf(m)
		from := 0
		for i, end := range fieldEnds(m) {
			long := end - from
			if namesOf(m.Kind)[i] == "Data" {
				long -= len(m.Data)
			}
			for more := 1; more <= 12; more++ {
				b := append(bytes.Clone(p[:from]), stretched(p[from:from+long], more)...)
				checkFault(t, frameOf(m.Kind, append(b, p[from+long:]...)), api.ErrMessage)
			}
			from = end
		}
	}
}

// P14.2: numbers that are above all that a count may be, and counts of Data that are above what is left.
func TestDecodeOfCountsThatCannotBe(t *testing.T) {
	large := bytes.Repeat([]byte{0xff}, 9)
	for _, last := range []byte{1, 2, 3, 0x7f, 0x80, 0xff} {
		n := append(bytes.Clone(large), last)
		checkFault(t, frameOf(api.MJoin, append(bytes.Clone(n), 2)), api.ErrMessage)
		checkFault(t, frameOf(api.MJoin, append([]byte{2}, n...)), api.ErrMessage)
		checkFault(t, frameOf(api.MPart, append([]byte{0, 0, 2}, n...)), api.ErrMessage)
		checkFault(t, frameOf(api.MPart, append(append([]byte{0, 0, 2}, n...), "data"...)), api.ErrMessage)
	}
	for count := range 256 {
		b := append([]byte{0, 0, 2, byte(count)}, "data"...)
		if count == 4 {
			checkDecoded(t, frameOf(api.MPart, b), api.Message{Kind: api.MPart, Parts: 1, Data: []byte("data")})
		} else {
			checkFault(t, frameOf(api.MPart, b), api.ErrMessage)
		}
	}
}

// P14.2: each field at both ends of its range, and beyond them.
func TestDecodeOutOfRange(t *testing.T) {
	for _, m := range middles() {
		for _, name := range namesOf(m.Kind) {
			if name == "Data" {
				continue
			}
			least, most := endsOf(m, name)
			for _, n := range []int{least, most} {
				checkDecoded(t, formOf(with(m, name, n)), with(m, name, n))
			}
			for _, n := range append([]int{least - 1, most + 1}, oddNumbers()...) {
				checkFault(t, formOf(with(m, name, n)), api.ErrMessage)
			}
		}
	}
}

// P14.2: Data of as many bytes as may be, of one more, and of as many as a frame holds.
func TestDecodeOfLongData(t *testing.T) {
	for _, m := range longMessages() {
		checkDecoded(t, formOf(m), m)
		m.Data = m.Data[:most-1]
		checkDecoded(t, formOf(m), m)
		room := api.MaxPayload - (len(payloadOf(m)) - len(m.Data))
		for _, n := range []int{most + 1, most + 2, 50000, room} {
			m.Data = make([]byte, n)
			if len(payloadOf(m)) > api.MaxPayload {
				t.Fatal(n)
			}
			checkFault(t, formOf(m), api.ErrMessage)
		}
	}
}

// P14.2: a right frame of a kind that is none, whatever its payload.
func TestDecodeOfOtherKinds(t *testing.T) {
	for kind := 9; kind <= 255; kind++ {
		checkFault(t, frameOf(kind, nil), api.ErrMessage)
		checkFault(t, frameOf(kind, []byte{0}), api.ErrMessage)
		for _, m := range middles() {
			checkFault(t, frameOf(kind, payloadOf(m)), api.ErrMessage)
		}
	}
	for _, m := range middles() {
		checkFault(t, frameOf(0, payloadOf(m)), api.ErrKind)
	}
}

// P14.2: a payload of one kind in a frame of another.
func TestDecodeOfAnotherKind(t *testing.T) {
	for _, m := range middles() {
		for kind := 1; kind <= 8; kind++ {
			checkBytes(t, frameOf(kind, payloadOf(m)))
		}
	}
}
