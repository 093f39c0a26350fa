package frame_test

import (
	"bytes"
	"math/rand/v2"
	"testing"

	"regatta/api"
)

// P13.2 to P13.4: all texts of one byte and of two, and all of up to seven bytes that matter.
func TestShortTexts(t *testing.T) {
	for x := range 256 {
		checkAny(t, []byte{byte(x)})
		for y := range 256 {
			checkAny(t, []byte{byte(x), byte(y)})
		}
	}
	texts := [][]byte{{}}
	for from := 0; len(texts[from]) < 7; from++ {
		for _, x := range []byte{'R', 'G', 1, 0} {
			texts = append(texts, append(bytes.Clone(texts[from]), x))
		}
	}
	for _, b := range texts {
		checkAny(t, b)
	}
}

// P13.2 to P13.4: behind a right beginning, all texts of four bytes that matter as a length, with some bytes behind it.
func TestAllLengths(t *testing.T) {
	bytesOf := []byte{0, 1, 2, 0x7f, 0x80, 0xff}
	for _, a := range bytesOf {
		for _, b := range bytesOf {
			for _, c := range bytesOf {
				for _, d := range bytesOf {
					head := []byte{'R', 'G', 1, 1, a, b, c, d}
					checkAny(t, head)
					checkAny(t, append(head, make([]byte, 40)...))
				}
			}
		}
	}
}

// mixed is frames and junk, one behind the other.
func mixed(r *rand.Rand) []byte {
	var out []byte
	for range r.IntN(6) {
		switch r.IntN(4) {
		case 0:
			out = append(out, textOf(r, r.IntN(20))...)
		case 1:
			b := anyFrame(r)
			out = append(out, b[:r.IntN(len(b))]...)
		case 2:
			out = append(out, formOf(byte(1+r.IntN(255)), mixed(r))...)
		default:
			out = append(out, anyFrame(r)...)
		}
	}
	return out
}

// spoilt is a text some of whose bytes are changed, put in or left out.
func spoilt(r *rand.Rand, b []byte) []byte {
	for range 1 + r.IntN(3) {
		i := r.IntN(len(b) + 1)
		switch behind := bytes.Clone(b[i:]); {
		case r.IntN(3) == 0:
			b = append(append(b[:i:i], textOf(r, 1+r.IntN(3))...), behind...)
		case len(behind) == 0:
		case r.IntN(2) == 0:
			b = append(b[:i:i], behind[1:]...)
		default:
			behind[0] ^= 1 << r.IntN(8)
			b = append(b[:i:i], behind...)
		}
	}
	return b
}

// P13.2 to P13.5: frames and junk, within one another too, right and spoilt.
func TestMixedTexts(t *testing.T) {
	r := shuffled(60)
	for range 20000 {
		b := mixed(r)
		checkAny(t, b)
		checkAny(t, spoilt(r, b))
	}
}

// P13.2 to P13.4: junk of all lengths, longer than the longest frame too.
func TestJunk(t *testing.T) {
	r := shuffled(61)
	for n := range 1500 {
		checkAny(t, textOf(r, n))
	}
	for range 5 {
		checkAny(t, textOf(r, 3*api.MaxPayload))
	}
}

// FuzzAny holds any bytes against the models, from frames and their beginnings on.
func FuzzAny(f *testing.F) {
	for _, k := range known() {
		f.Add([]byte(k.form))
		f.Add([]byte("RG" + k.form + "x" + k.form))
		f.Add([]byte(k.form[:len(k.form)-1]))
	}
	f.Fuzz(func(t *testing.T, b []byte) { checkAny(t, b) })
}
