package frame_test

import (
	"bytes"
	"encoding/binary"
	"hash/crc32"
	"testing"

	"regatta/api"
)

// P13.2: frames whose bytes were reckoned outside of the program.
func TestOpenOfKnownFrames(t *testing.T) {
	for _, k := range known() {
		checkOpened(t, []byte(k.form), k.kind, []byte(k.payload), len(k.form))
	}
}

// P13.2: the chapter's examples, and what is wrong at each byte with nothing behind it.
func TestOpenOfBeginningsThatAreNone(t *testing.T) {
	for _, c := range []struct {
		b    string
		want api.Errno
	}{
		{"", api.ErrShort},
		{"\x52", api.ErrShort},
		{"\x52\x48", api.ErrMagic},
		{"\x51", api.ErrMagic},
		{"\x47", api.ErrMagic},
		{"\x47\x52", api.ErrMagic},
		{"\x00", api.ErrMagic},
		{"RG", api.ErrShort},
		{"RG\x00", api.ErrVersion},
		{"RG\x02", api.ErrVersion},
		{"RG\x01", api.ErrShort},
		{"RG\x01\x00", api.ErrKind},
		{"RG\x01\x01", api.ErrShort},
		{"RG\x01\x01\xff", api.ErrShort},
		{"RG\x01\x01\xff\xff", api.ErrShort},
		{"RG\x01\x01\xff\xff\xff", api.ErrShort},
		{"RG\x01\x01\xff\xff\xff\xff", api.ErrSize},
		{"RG\x01\x01\x01\x00\x01\x00", api.ErrSize},
		{"RG\x01\x01\x00\x00\x01\x00", api.ErrShort},
		{"RG\x01\x01\x00\x00\x02\x00", api.ErrSize},
		{"RG\x01\x01\x00\x00\x00\x01", api.ErrSize},
		{"RG\x01\x01\x00\x00\x00\x80", api.ErrSize},
		{"RG\x01\x01\x00\x00\x00\x00", api.ErrShort},
		{"RG\x01\x01\x00\x00\x00\x00\x30\x9a\xb1", api.ErrShort},
		{"RG\x01\x01\x00\x00\x00\x00\x00\x00\x00", api.ErrShort},
		{"RG\x01\x01\x00\x00\x00\x00\x05\xb1\x9a\x30", api.ErrSum},
		{"RG\x01\x01\x00\x00\x00\x00\x00\x00\x00\x00", api.ErrSum},
	} {
		checkFault(t, []byte(c.b), c.want)
	}
	checkFault(t, nil, api.ErrShort)
}

// P13.2: of every beginning of a frame, the empty one too, it is ErrShort.
func TestOpenOfEveryBeginning(t *testing.T) {
	r := shuffled(10)
	for _, l := range lengths() {
		b := formOf(l.kind, textOf(r, l.n))
		for end := range b {
			checkFault(t, b[:end], api.ErrShort)
		}
		checkOpened(t, b, int(l.kind), b[8:8+l.n], 12+l.n)
	}
}

// faultOf is what Open must answer of a frame whose byte i became another: a length that grew asks for bytes that lack; what none of the beginning's errors tells, the sum does.
func faultOf(b []byte, i int) api.Errno {
	size := int64(binary.LittleEndian.Uint32(b[4:]))
	switch {
	case i < 2:
		return api.ErrMagic
	case i == 2:
		return api.ErrVersion
	case i == 3 && b[3] == 0:
		return api.ErrKind
	case size > api.MaxPayload:
		return api.ErrSize
	case size > int64(len(b)-12):
		return api.ErrShort
	}
	return api.ErrSum
}

// P13.2: each byte of a frame, changed by itself to each other one.
func TestOpenWithOneByteChanged(t *testing.T) {
	r := shuffled(11)
	for _, n := range []int{0, 1, 2, 30, 300} {
		b := formOf(byte(1+r.IntN(255)), textOf(r, n))
		for i := range b {
			was := b[i]
			for x := range 256 {
				if b[i] = byte(x); b[i] != was {
					checkFault(t, b, faultOf(b, i))
				}
			}
			b[i] = was
		}
	}
}

// P13.2: where several bytes are wrong the first of them is told, whatever stands behind it, and whether anything does.
func TestOpenTellsTheFirstError(t *testing.T) {
	wrong := []struct {
		i    int
		x    byte
		want api.Errno
	}{{0, 'r', api.ErrMagic}, {1, 'R', api.ErrMagic}, {2, 2, api.ErrVersion}, {3, 0, api.ErrKind}, {7, 1, api.ErrSize}, {8, 9, api.ErrSum}}
	for set := 1; set < 1<<len(wrong); set++ {
		b := formOf(5, []byte("abc"))
		first := -1
		for k, w := range wrong {
			if set>>k&1 == 1 {
				b[w.i] = w.x
				if first < 0 {
					first = k
				}
			}
		}
		for end := range len(b) + 1 {
			want := api.ErrShort
			if end > wrong[first].i && (wrong[first].want != api.ErrSum || end == len(b)) {
				want = wrong[first].want
			}
			checkFault(t, b[:end], want)
		}
		checkFault(t, append(b, "behind"...), wrong[first].want)
	}
}

// P13.2: a length of MaxPayload may be; above it, it is told ahead of what lacks, and of a sum that would be right.
func TestOpenOfLengths(t *testing.T) {
	p := make([]byte, api.MaxPayload+5)
	for _, n := range []int{api.MaxPayload + 1, api.MaxPayload + 2, api.MaxPayload + 5} {
		b := formOf(1, p[:n])
		for _, end := range []int{8, 9, 12, 1000, len(b) - 1, len(b)} {
			checkFault(t, b[:end], api.ErrSize)
		}
	}
	for _, n := range []uint32{65537, 65536 * 2, 1 << 24, 1<<24 + 3, 1<<31 - 1, 1 << 31, 1<<31 + 3, 1<<32 - 12, 1<<32 - 9, 1<<32 - 8, 1<<32 - 4, 1<<32 - 1} {
		head := binary.LittleEndian.AppendUint32([]byte("RG\x01\x01"), n)
		checkFault(t, head, api.ErrSize)
		checkFault(t, append(head, make([]byte, 300)...), api.ErrSize)
		checkFault(t, binary.LittleEndian.AppendUint32(bytes.Clone(head), crc32.ChecksumIEEE(head)), api.ErrSize)
	}
	b := formOf(1, p[:api.MaxPayload])
	checkOpened(t, b, 1, p[:api.MaxPayload], len(b))
	checkFault(t, b[:len(b)-1], api.ErrShort)
}

// P13.2: a length that is changed reads another sum. Where the sum goes with it, it is a frame, and what stands behind it is of no matter.
func TestOpenOfAnotherLength(t *testing.T) {
	r := shuffled(12)
	b := formOf(9, textOf(r, 50))
	for n := range 50 {
		c := bytes.Clone(b)
		c[4] = byte(n)
		checkFault(t, c, api.ErrSum)
		binary.LittleEndian.PutUint32(c[8+n:], crc32.ChecksumIEEE(c[:8+n]))
		checkOpened(t, c, 9, c[8:8+n], 12+n)
	}
	for n := 51; n < 256; n++ {
		b[4] = byte(n)
		checkFault(t, b, api.ErrShort)
	}
}

// P13.2: a sum is of all that stands ahead, not of the payload alone, and its lowest byte comes first.
func TestOpenOfOtherSums(t *testing.T) {
	p := []byte("payload")
	b := formOf(3, p)
	end := len(b) - 4
	sum := crc32.ChecksumIEEE(b[:end])
	for _, other := range []uint32{0, ^sum, sum + 1, sum ^ 1<<31, crc32.ChecksumIEEE(p), crc32.ChecksumIEEE(b[3:end]), crc32.ChecksumIEEE(b[4:end]), crc32.ChecksumIEEE(b[:8])} {
		checkFault(t, binary.LittleEndian.AppendUint32(bytes.Clone(b[:end]), other), api.ErrSum)
	}
	checkFault(t, binary.BigEndian.AppendUint32(bytes.Clone(b[:end]), sum), api.ErrSum)
}

// P13.2, P13.5: what was sealed is opened, with anything behind it.
func TestOpenWithBytesBehind(t *testing.T) {
	r := shuffled(13)
	for _, l := range lengths() {
		p := textOf(r, l.n)
		b := sealed(t, int(l.kind), p)
		checkOpened(t, b, int(l.kind), p, len(b))
		for _, behind := range [][]byte{{0}, {'R'}, []byte("RG\x01"), bytes.Clone(b), b[:len(b)-1], textOf(r, 100)} {
			checkOpened(t, append(bytes.Clone(b), behind...), int(l.kind), p, len(b))
		}
	}
	for kind := 1; kind <= 255; kind++ {
		for range 20 {
			p := textOf(r, r.IntN(100))
			b := sealed(t, kind, p)
			checkOpened(t, append(bytes.Clone(b), textOf(r, r.IntN(50))...), kind, p, len(b))
		}
	}
}
