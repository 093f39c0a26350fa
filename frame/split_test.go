package frame_test

import (
	"bytes"
	"testing"

	"regatta/api"
)

// someFrames are n frames, and their forms.
func someFrames(seed uint64, n int) (list []api.Frame, forms [][]byte) {
	r := shuffled(seed)
	for range n {
		b := anyFrame(r)
		list = append(list, api.Frame{Kind: int(b[3]), Payload: b[8 : len(b)-4]})
		forms = append(forms, b)
	}
	return list, forms
}

// P13.3: no byte is no frame, and no error.
func TestSplitOfNoByte(t *testing.T) {
	checkSplit(t, nil, nil, 0, api.OK)
	checkSplit(t, []byte{}, nil, 0, api.OK)
}

// P13.3: frames up to the end.
func TestSplitOfFrames(t *testing.T) {
	for n := range 12 {
		list, forms := someFrames(20, n)
		b := bytes.Join(forms, nil)
		checkSplit(t, b, list, len(b), api.OK)
	}
	list, forms := someFrames(21, 3000)
	b := bytes.Join(forms, nil)
	checkSplit(t, b, list, len(b), api.OK)
}

// P13.3: the least frames and the longest ones, beside one another.
func TestSplitOfLeastAndLongest(t *testing.T) {
	p := textOf(shuffled(22), api.MaxPayload)
	least, longest := formOf(1, nil), formOf(255, p)
	b := bytes.Join([][]byte{least, longest, least, least, longest, longest}, nil)
	a, z := api.Frame{Kind: 1}, api.Frame{Kind: 255, Payload: p}
	checkSplit(t, b, []api.Frame{a, z, a, a, z, z}, len(b), api.OK)
	checkSplit(t, b[:len(b)-1], []api.Frame{a, z, a, a, z}, len(b)-len(longest), api.ErrShort)
}

// ending is bytes that are no frame, with what Open says of them.
type ending struct {
	b    string
	want api.Errno
}

func endings() []ending {
	return []ending{
		{"x", api.ErrMagic},
		{"R", api.ErrShort},
		{"RR", api.ErrMagic},
		{"RG\x03", api.ErrVersion},
		{"RG\x01\x00", api.ErrKind},
		{"RG\x01\x07\x00\x00\xff\x00", api.ErrSize},
		{"RG\x01\x07\x00\x00\x01\x00", api.ErrShort},
		{"RG\x01\x01\x00\x00\x00\x00\x30\x9a\xb1\x04", api.ErrSum},
	}
}

// P13.3: bytes that are no frame, at the beginning, behind one frame and behind several: the place, the error, and the list beside it. What stands behind that place is of no matter, a right frame neither.
func TestSplitEndsAtAnError(t *testing.T) {
	for n := range 5 {
		list, forms := someFrames(23, n)
		b := bytes.Join(forms, nil)
		for _, end := range endings() {
			with := append(bytes.Clone(b), end.b...)
			checkSplit(t, with, list, len(b), end.want)
			if end.want != api.ErrShort {
				checkSplit(t, append(with, formOf(9, []byte("right"))...), list, len(b), end.want)
			}
		}
	}
}

// P13.3: several frames, broken off at each place: those that are whole are told, and where the one stands that isn't.
func TestSplitOfEveryBeginning(t *testing.T) {
	list, forms := someFrames(24, 8)
	b := bytes.Join(forms, nil)
	whole, at := 0, 0
	for end := range len(b) + 1 {
		if whole < len(forms) && end == at+len(forms[whole]) {
			whole, at = whole+1, end
		}
		want := api.ErrShort
		if end == at {
			want = api.OK
		}
		checkSplit(t, b[:end], list[:whole], at, want)
	}
}

// P13.3: each byte of several frames, changed by itself: it ends at the frame that has it.
func TestSplitWithOneByteChanged(t *testing.T) {
	list, forms := someFrames(25, 6)
	b := bytes.Join(forms, nil)
	at := 0
	for k, form := range forms {
		for i := range form {
			b[at+i] ^= 0x80
			_, _, want := modelOpen(b[at:])
			if want == api.OK {
				t.Fatal("the model takes it")
			}
			checkSplit(t, b, list[:k], at, want)
			b[at+i] ^= 0x80
		}
		at += len(form)
	}
}
