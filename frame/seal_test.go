package frame_test

import (
	"bytes"
	"math"
	"testing"

	"regatta/api"
	"regatta/frame"
)

// P13.1: frames whose bytes were reckoned outside of the program; the first is the chapter's example.
func TestSealOfKnownFrames(t *testing.T) {
	for _, k := range known() {
		if got := sealed(t, k.kind, []byte(k.payload)); string(got) != k.form {
			t.Errorf("Seal(%d, %q): %x, want %x", k.kind, k.payload, got, k.form)
		}
	}
}

// P13.1: frames of MaxPayload bytes, their ends reckoned outside of the program.
func TestSealOfMaxPayload(t *testing.T) {
	steps := make([]byte, api.MaxPayload)
	for i := range steps {
		steps[i] = byte(i % 251)
	}
	for _, c := range []struct {
		kind      int
		payload   []byte
		head, sum string
	}{
		{3, make([]byte, api.MaxPayload), "RG\x01\x03\x00\x00\x01\x00", "\x85\xb9\xac\x60"},
		{9, bytes.Repeat([]byte{255}, api.MaxPayload), "RG\x01\x09\x00\x00\x01\x00", "\xe4\xa8\xcd\xf3"},
		{250, steps, "RG\x01\xfa\x00\x00\x01\x00", "\xcd\xfa\x8d\x73"},
	} {
		b := sealed(t, c.kind, c.payload)
		if len(b) != 65548 || string(b[:8]) != c.head || !bytes.Equal(b[8:65544], c.payload) || string(b[65544:]) != c.sum {
			t.Errorf("kind %d: %d bytes, %x .. %x", c.kind, len(b), b[:8], b[len(b)-4:])
		}
	}
}

// P13.1: each kind, with payloads of none (nil too), of one byte, of many and of the most.
func TestSealOfEachKind(t *testing.T) {
	r := shuffled(1)
	payloads := [][]byte{nil, {}, {0}, {255}, textOf(r, 300)}
	for kind := 1; kind <= 255; kind++ {
		for _, p := range payloads {
			if got := sealed(t, kind, p); !bytes.Equal(got, formOf(byte(kind), p)) {
				t.Fatalf("Seal(%d, %x): %x", kind, p, got)
			}
		}
	}
	for _, l := range lengths() {
		p := textOf(r, l.n)
		if got := sealed(t, int(l.kind), p); !bytes.Equal(got, formOf(l.kind, p)) {
			t.Fatalf("Seal(%d, %d bytes): %x", l.kind, l.n, short(got))
		}
	}
}

func checkRefused(t *testing.T, kind int, payload []byte, want api.Errno) {
	t.Helper()
	if b, e := frame.Seal(kind, payload); e != want || len(b) > 0 {
		t.Errorf("Seal(%d, %d bytes): %d bytes, %d, want %d", kind, len(payload), len(b), e, want)
	}
}

// P13.1: kinds that may not be, some of them with a lowest byte that might; ahead of a payload that is too long.
func TestSealRefusesKinds(t *testing.T) {
	for _, kind := range []int{0, -1, -2, -255, -256, 256, 257, 511, 512, 1<<16 + 1, 1<<32 + 1, 1<<40 + 7, math.MaxInt, math.MinInt, math.MinInt + 1} {
		for _, n := range []int{0, 1, 300, api.MaxPayload, api.MaxPayload + 1, 2 * api.MaxPayload} {
			checkRefused(t, kind, make([]byte, n), api.ErrKind)
		}
		checkRefused(t, kind, nil, api.ErrKind)
	}
}

// P13.1: payloads that are too long, by one and by more.
func TestSealRefusesPayloads(t *testing.T) {
	for _, kind := range []int{1, 2, 128, 255} {
		for _, n := range []int{api.MaxPayload + 1, api.MaxPayload + 2, 2 * api.MaxPayload, 1<<20 + 3} {
			checkRefused(t, kind, make([]byte, n), api.ErrSize)
		}
	}
}
