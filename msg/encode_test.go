package msg_test

import (
	"bytes"
	"encoding/hex"
	"testing"

	"regatta/api"
	"regatta/frame"
	"regatta/msg"
)

// P14.1, P14.2: messages whose bytes were reckoned outside of the program.
func TestKnownMessages(t *testing.T) {
	for _, k := range known() {
		b, e := msg.Encode(k.m)
		if e != api.OK || hex.EncodeToString(b) != k.form {
			t.Errorf("Encode(%v): %x, %d, want %s", k.m, b, e, k.form)
		}
		checkDecoded(t, unhexed(t, k.form), k.m)
	}
}

// P14.1: the chapter's example: the payload of MJoin of the worker 3 in its incarnation 1.
func TestExample(t *testing.T) {
	b, e := msg.Encode(api.Message{Kind: api.MJoin, From: 3, Inc: 1})
	if e != api.OK {
		t.Fatal(e)
	}
	f, n, e := frame.Open(b)
	if e != api.OK || n != len(b) || f.Kind != api.MJoin || !bytes.Equal(f.Payload, []byte{6, 2}) {
		t.Errorf("%x: %v, %d, %d", b, f, n, e)
	}
}

// P14.1: fields stand in the order of the payload, no matter which numbers they are: each has one of its own here.
func TestOrderOfFields(t *testing.T) {
	all := api.Message{From: 11, Inc: 12, Round: 13, H: 14, Part: 15, Parts: 16, Data: []byte("D")}
	for i, want := range []string{"1618", "1a1c20", "16181a1e", "1a1e200144", "16181a1e200144", "181a1e", "181a", "1618"} {
		kind := i + 1
		m := api.Message{Kind: kind}
		for _, name := range namesOf(kind) {
			if name == "Data" {
				m.Data = all.Data
			} else {
				*spot(&m, name) = *spot(&all, name)
			}
		}
		b, e := msg.Encode(m)
		f, n, open := frame.Open(b)
		if e != api.OK || open != api.OK || n != len(b) || f.Kind != kind || hex.EncodeToString(f.Payload) != want {
			t.Errorf("%v: %x, %d, want %s", m, b, e, want)
		}
	}
}

// P14.1: with an error there are no bytes.
func TestEncodeOfNoMessage(t *testing.T) {
	for _, m := range []api.Message{{}, {Kind: 9}, {Kind: -1}, {Kind: 255}, {Kind: 256}, {Kind: 257, From: 1}, {Kind: api.MJoin}, {Kind: api.MJoin, From: 65}, {Kind: api.MTell, Parts: 1}, {Kind: api.MTell, H: 1}, {Kind: api.MPart}, {Kind: api.MPart, Part: 2, Parts: 2}, {Kind: api.MAck, Data: []byte("x")}} {
		checkWrong(t, m)
	}
}
