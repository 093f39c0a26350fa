package msg_test

import (
	"bytes"
	"testing"

	"regatta/api"
	"regatta/msg"
)

// roomy is a text with room behind its bytes in which something stands.
func roomy(text, behind []byte) []byte {
	return append(bytes.Clone(text), behind...)[:len(text)]
}

// spoil writes over a text and all its room.
func spoil(b []byte) {
	b = b[:cap(b)]
	for i := range b {
		b[i] = 0xee
	}
}

// whole is a copy of a text with all its room.
func whole(b []byte) []byte { return bytes.Clone(b[:cap(b)]) }

// messagesOfAllData are messages with Data of several lengths, and some without.
func messagesOfAllData() []api.Message {
	list := append(middles(), longMessages()...)
	for _, n := range []int{0, 1, 100, 1000} {
		list = append(list, api.Message{Kind: api.MPart, Parts: 1, Data: bytes.Repeat([]byte("d"), n)})
	}
	return list
}

// DOC.md's rules 4 and 8: a message's Data stays as it is, its room too, whether it is right or not, and the bytes share nothing with it.
func TestHandedToEncode(t *testing.T) {
	for _, m := range messagesOfAllData() {
		want := formOf(m)
		for _, kind := range []int{m.Kind, 0, 9, api.MJoin} {
			other := m
			other.Kind = kind
			other.Data = roomy(m.Data, []byte("behind"))
			was := whole(other.Data)
			right := msg.Right(other)
			b, e := msg.Encode(other)
			if !bytes.Equal(whole(other.Data), was) || right != (e == api.OK) {
				t.Fatalf("%v: %v, %d", told(other), right, e)
			}
			if kind != m.Kind {
				continue
			}
			spoil(other.Data)
			if !bytes.Equal(b, want) {
				t.Fatalf("%v: the bytes share the Data's memory", told(m))
			}
			other.Data = roomy(m.Data, []byte("behind"))
			b, _ = msg.Encode(other)
			spoil(b)
			if !bytes.Equal(whole(other.Data), was) {
				t.Fatalf("%v: the Data shares the bytes' memory", told(m))
			}
		}
	}
}

// DOC.md's rule 4: two answers are two.
func TestEncodeAnswersNewMemory(t *testing.T) {
	for _, m := range messagesOfAllData() {
		first, _ := msg.Encode(m)
		second, _ := msg.Encode(m)
		spoil(second)
		third, _ := msg.Encode(m)
		if !bytes.Equal(first, formOf(m)) || !bytes.Equal(third, first) {
			t.Fatalf("%v: %x, %x", told(m), short(first), short(third))
		}
	}
}

// DOC.md's rules 4 and 8: bytes that are read stay as they are, their room too, and the Data that is answered is memory of its own.
func TestHandedToDecode(t *testing.T) {
	for _, m := range messagesOfAllData() {
		handed := roomy(formOf(m), []byte("behind"))
		was := whole(handed)
		first, e := msg.Decode(handed)
		second, _ := msg.Decode(handed)
		if e != api.OK || !bytes.Equal(whole(handed), was) {
			t.Fatalf("%v: %d", told(m), e)
		}
		spoil(first.Data)
		if !bytes.Equal(whole(handed), was) || !same(second, m) {
			t.Fatalf("%v: what is answered shares memory", told(m))
		}
		spoil(handed)
		if !same(second, m) {
			t.Fatalf("%v: what is answered shares the bytes' memory", told(m))
		}
	}
	for _, none := range [][]byte{nil, []byte("junk"), frameOf(9, []byte("x")), frameOf(1, []byte{6}), append(frameOf(1, []byte{6, 2}), 0), frameOf(4, []byte{0, 0, 2, 9, 'd'})} {
		handed := roomy(none, []byte("behind"))
		was := whole(handed)
		if _, e := msg.Decode(handed); e == api.OK || !bytes.Equal(whole(handed), was) {
			t.Fatalf("%x: %d", none, e)
		}
	}
}

// DOC.md's rule 8: what lies behind the length of bytes is not read, though it is the rest of a frame.
func TestDecodeEndsWithItsBytes(t *testing.T) {
	for _, m := range middles() {
		b := formOf(m)
		for end := range b {
			checkFault(t, b[:end], api.ErrShort)
		}
		checkDecoded(t, append(bytes.Clone(b), b...)[:len(b)], m)
	}
}

// DOC.md's rule 8: what lies behind the length of Data is neither read nor written out.
func TestEncodeEndsWithItsData(t *testing.T) {
	for _, kind := range []int{api.MPart, api.MDelta} {
		m := middles()[kind-1]
		m.Data = make([]byte, most+100)[:5]
		checkRight(t, m)
	}
	for _, m := range middles() {
		m.Data = []byte("behind")[:0]
		checkRight(t, m)
	}
}

// DOC.md's rule 5: what is answered hangs on what is handed in alone: the same again after anything else was asked.
func TestAnswersDoNotHangOnWhatWasAsked(t *testing.T) {
	for _, m := range middles() {
		for _, other := range middles() {
			wrong := other
			wrong.Kind = 99
			checkWrong(t, wrong)
			checkFault(t, frameOf(other.Kind, []byte("junk that is none")), api.ErrMessage)
			checkRight(t, other)
			checkRight(t, m)
		}
	}
}
