package frame_test

import (
	"bytes"
	"encoding/binary"
	"hash/crc32"
	"iter"
	"math/rand/v2"
	"slices"
	"testing"

	"regatta/api"
	"regatta/frame"
)

// formOf is the form of a frame, its sum made by the library.
func formOf(kind byte, payload []byte) []byte {
	out := []byte{0x52, 0x47, 1, kind}
	out = binary.LittleEndian.AppendUint32(out, uint32(len(payload)))
	out = append(out, payload...)
	return binary.LittleEndian.AppendUint32(out, crc32.ChecksumIEEE(out))
}

// modelOpen is Open by one byte after the other, each asked only when it is its turn; a right frame is known by making it anew.
func modelOpen(b []byte) (api.Frame, int, api.Errno) {
	long := 12
	for i := 0; i < long; i++ {
		if i == len(b) {
			return api.Frame{}, 0, api.ErrShort
		}
		switch x := b[i]; {
		case i == 0 && x != 'R', i == 1 && x != 'G':
			return api.Frame{}, 0, api.ErrMagic
		case i == 2 && x != 1:
			return api.Frame{}, 0, api.ErrVersion
		case i == 3 && x == 0:
			return api.Frame{}, 0, api.ErrKind
		case i < 4 || i > 7:
		case i == 6 && x > 1, i == 7 && x > 0:
			long = 1 << 62
		default:
			long += int(x) << (8 * (i - 4))
		}
		if i == 7 && long > 65548 {
			return api.Frame{}, 0, api.ErrSize
		}
	}
	if !bytes.Equal(b[:long], formOf(b[3], b[8:long-4])) {
		return api.Frame{}, 0, api.ErrSum
	}
	return api.Frame{Kind: int(b[3]), Payload: b[8 : long-4]}, long, api.OK
}

// found is a frame, and where it stands.
type found struct {
	at int
	api.Frame
}

func sameFrame(a, b api.Frame) bool { return a.Kind == b.Kind && bytes.Equal(a.Payload, b.Payload) }

func sameFrames(a, b []api.Frame) bool { return slices.EqualFunc(a, b, sameFrame) }

func sameFound(a, b []found) bool {
	return slices.EqualFunc(a, b, func(x, y found) bool { return x.at == y.at && sameFrame(x.Frame, y.Frame) })
}

// modelSplit is Split by taking off the front what modelOpen tells.
func modelSplit(b []byte) ([]api.Frame, int, api.Errno) {
	var list []api.Frame
	for left := b; len(left) > 0; {
		f, n, e := modelOpen(left)
		if e != api.OK {
			return list, len(b) - len(left), e
		}
		list, left = append(list, f), left[n:]
	}
	return list, len(b), api.OK
}

// modelHunt is what Hunt tells: of all places at which a frame stands those that aren't within one that is told.
func modelHunt(b []byte) []found {
	var out []found
	free := 0
	for at := range b {
		f, n, e := modelOpen(b[at:])
		if e == api.OK && at >= free {
			out, free = append(out, found{at, f}), at+n
		}
	}
	return out
}

// gathered is all that a range tells.
func gathered(seq iter.Seq2[int, api.Frame]) []found {
	var out []found
	for at, f := range seq {
		out = append(out, found{at, f})
	}
	return out
}

// sealed is what Seal answers where it has no error.
func sealed(t *testing.T, kind int, payload []byte) []byte {
	t.Helper()
	b, e := frame.Seal(kind, payload)
	if e != api.OK {
		t.Fatalf("Seal(%d, %d bytes): %d", kind, len(payload), e)
	}
	return b
}

// short is bytes as a failed test tells them.
func short(b []byte) []byte { return b[:min(len(b), 80)] }

// checkFault sees to it that Open answers an error, and nothing beside it.
func checkFault(t *testing.T, b []byte, want api.Errno) {
	t.Helper()
	if f, n, e := frame.Open(b); e != want || n != 0 || f.Kind != 0 || len(f.Payload) > 0 {
		t.Fatalf("Open(%x): %d, %d bytes, %d, %d, want %d", short(b), f.Kind, len(f.Payload), n, e, want)
	}
}

// checkOpened sees to it that Open answers a frame of so many bytes.
func checkOpened(t *testing.T, b []byte, kind int, payload []byte, long int) {
	t.Helper()
	f, n, e := frame.Open(b)
	if e != api.OK || n != long || f.Kind != kind || !bytes.Equal(f.Payload, payload) {
		t.Fatalf("Open(%x): %d, %x, %d, %d, want %d, %x, %d", short(b), f.Kind, short(f.Payload), n, e, kind, short(payload), long)
	}
}

// checkSplit sees to it that Split answers these frames, this place and this error.
func checkSplit(t *testing.T, b []byte, want []api.Frame, at int, fault api.Errno) {
	t.Helper()
	if list, n, e := frame.Split(b); !sameFrames(list, want) || n != at || e != fault {
		t.Fatalf("Split(%x): %d frames, %d, %d, want %d frames, %d, %d", short(b), len(list), n, e, len(want), at, fault)
	}
}

// checkHunt sees to it that a range tells these frames at these places, once and once more.
func checkHunt(t *testing.T, b []byte, want ...found) {
	t.Helper()
	seq := frame.Hunt(b)
	for range 2 {
		if got := gathered(seq); !sameFound(got, want) {
			t.Fatalf("Hunt(%x): %d frames, want %d: %v, %v", short(b), len(got), len(want), got, want)
		}
	}
}

// checkAny holds all that is read against the models; what is opened is sealed as the same bytes.
func checkAny(t *testing.T, b []byte) {
	t.Helper()
	want, long, fault := modelOpen(b)
	if fault != api.OK {
		checkFault(t, b, fault)
	} else {
		checkOpened(t, b, want.Kind, want.Payload, long)
		if again := sealed(t, want.Kind, want.Payload); !bytes.Equal(again, b[:long]) {
			t.Fatalf("%x is sealed again as %x", short(b), short(again))
		}
	}
	list, at, e := modelSplit(b)
	checkSplit(t, b, list, at, e)
	checkHunt(t, b, modelHunt(b)...)
}

func shuffled(seed uint64) *rand.Rand { return rand.New(rand.NewPCG(seed, 13)) }

// textOf is a text of n bytes of all kinds, or of bytes that a frame begins with.
func textOf(r *rand.Rand, n int) []byte {
	out := make([]byte, n)
	kind := r.IntN(3)
	for i := range out {
		if kind == 0 {
			out[i] = "RG\x01\x00\x02\xff"[r.IntN(6)]
		} else {
			out[i] = byte(r.Uint32())
		}
	}
	return out
}

// anyFrame is the form of a frame of any kind with a short payload.
func anyFrame(r *rand.Rand) []byte {
	return formOf(byte(1+r.IntN(255)), textOf(r, r.IntN(40)))
}

// sized is how many bytes a payload has, and its frame's kind.
type sized struct {
	n    int
	kind byte
}

// lengths are those of payloads at edges, each with a kind.
func lengths() []sized {
	return []sized{{0, 1}, {1, 255}, {2, 2}, {3, 128}, {4, 77}, {255, 9}, {256, 10}, {257, 1}, {1000, 82}, {65535, 71}, {api.MaxPayload, 254}}
}

// known are frames whose bytes were reckoned outside of the program.
func known() []struct {
	kind          int
	payload, form string
} {
	return []struct {
		kind          int
		payload, form string
	}{
		{1, "a", "RG\x01\x01\x01\x00\x00\x00a\xc5\x16\x0b\xf3"},
		{1, "", "RG\x01\x01\x00\x00\x00\x00\x30\x9a\xb1\x05"},
		{255, "", "RG\x01\xff\x00\x00\x00\x00\x0c\x74\xb5\xf2"},
		{7, "regatta", "RG\x01\x07\x07\x00\x00\x00regatta\x9c\x67\xd5\xfc"},
	}
}

// The model is held against what was reckoned outside of it too.
func TestModelOfKnownFrames(t *testing.T) {
	for _, k := range known() {
		if got := formOf(byte(k.kind), []byte(k.payload)); string(got) != k.form {
			t.Errorf("%x, want %x", got, k.form)
		}
		if f, n, e := modelOpen([]byte(k.form)); f.Kind != k.kind || string(f.Payload) != k.payload || n != len(k.form) || e != api.OK {
			t.Errorf("%x: %v, %d, %d", k.form, f, n, e)
		}
	}
}
