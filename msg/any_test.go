package msg_test

import (
	"math/rand/v2"
	"strings"
	"testing"

	"regatta/api"
)

// P14.3: what is encoded is decoded as it was, and encoded again as the same bytes.
func TestThereAndBack(t *testing.T) {
	r := shuffled(30)
	for kind := 1; kind <= 8; kind++ {
		for range 10000 {
			m := drawn(r, kind)
			if !modelRight(m) {
				t.Fatal(told(m))
			}
			checkRight(t, m)
		}
	}
}

// anyNumber is a number of any size, most of them small.
func anyNumber(r *rand.Rand) int {
	switch r.IntN(4) {
	case 0:
		return r.IntN(5) - 1
	case 1:
		return []int{63, 64, 65, 255, 256, 257, 1022, 1023, 1024, 1025, mostInc, mostInc + 1}[r.IntN(12)]
	case 2:
		return int(r.Uint64() >> r.IntN(64))
	}
	return oddNumbers()[r.IntN(len(oddNumbers()))]
}

// P14.1: right messages of which some numbers are changed, used or not.
func TestChangedMessages(t *testing.T) {
	r := shuffled(31)
	names := strings.Fields(numbered)
	for range 50000 {
		m := drawn(r, 1+r.IntN(8))
		for range 1 + r.IntN(2) {
			m = with(m, names[r.IntN(len(names))], anyNumber(r))
		}
		if r.IntN(10) == 0 {
			m.Kind = anyNumber(r)
		}
		checkAny(t, m)
		checkBytes(t, formOf(m))
	}
}

// P14.2, P14.3: right frames of each kind, with all payloads of up to two bytes.
func TestShortPayloads(t *testing.T) {
	for kind := 1; kind <= 9; kind++ {
		checkBytes(t, frameOf(kind, nil))
		for x := range 256 {
			checkBytes(t, frameOf(kind, []byte{byte(x)}))
			for y := range 256 {
				checkBytes(t, frameOf(kind, []byte{byte(x), byte(y)}))
			}
		}
	}
}

// P14.2, P14.3: right frames of each kind, with all payloads of up to six of the bytes that matter.
func TestPayloadsOfFewBytes(t *testing.T) {
	for kind := 1; kind <= 9; kind++ {
		list := [][]byte{{}}
		for from := 0; from < len(list); from++ {
			p := list[from]
			checkBytes(t, frameOf(kind, p))
			if len(p) == 6 {
				continue
			}
			for _, x := range []byte{0, 1, 2, 4, 0x80} {
				list = append(list, append(p[:len(p):len(p)], x))
			}
		}
	}
}

// anyPayload is a payload of bytes, of a message's bytes, or of numbers.
func anyPayload(r *rand.Rand) []byte {
	switch r.IntN(3) {
	case 0:
		return textOf(r, r.IntN(20))
	case 1:
		p := payloadOf(drawn(r, 1+r.IntN(8)))
		for range 1 + r.IntN(2) {
			if len(p) > 0 {
				p[r.IntN(len(p))] ^= 1 << r.IntN(8)
			}
		}
		return p
	}
	var p []byte
	for range r.IntN(8) {
		p = append(p, payloadOf(api.Message{Kind: api.MResend, Inc: r.IntN(70), Round: r.IntN(3)})...)
		p = p[:len(p)-r.IntN(2)]
	}
	return p
}

// P14.2, P14.3: right frames of any payload.
func TestAnyPayloads(t *testing.T) {
	r := shuffled(32)
	for range 100000 {
		kind := 1 + r.IntN(8)
		if r.IntN(20) == 0 {
			kind = 1 + r.IntN(255)
		}
		checkBytes(t, frameOf(kind, anyPayload(r)))
	}
	for kind := 1; kind <= 9; kind++ {
		checkBytes(t, frameOf(kind, make([]byte, api.MaxPayload)))
		checkBytes(t, frameOf(kind, textOf(r, api.MaxPayload)))
	}
}

// P14.2: any bytes, and frames of messages that are spoilt.
func TestAnyBytes(t *testing.T) {
	r := shuffled(33)
	for n := range 2000 {
		checkBytes(t, textOf(r, n))
	}
	for range 50000 {
		b := formOf(drawn(r, 1+r.IntN(8)))
		switch r.IntN(3) {
		case 0:
			b[r.IntN(len(b))] ^= 1 << r.IntN(8)
		case 1:
			b = b[:r.IntN(len(b))]
		case 2:
			b = append(b, textOf(r, r.IntN(3))...)
		}
		checkBytes(t, b)
	}
	checkBytes(t, textOf(r, 3*api.MaxPayload))
}

// FuzzBytes holds any bytes against the model, and a right frame that has them as its payload.
func FuzzBytes(f *testing.F) {
	for _, m := range middles() {
		f.Add(byte(m.Kind), formOf(m))
		f.Add(byte(m.Kind), payloadOf(m))
	}
	f.Fuzz(func(t *testing.T, kind byte, b []byte) {
		checkBytes(t, b)
		checkBytes(t, frameOf(int(kind), b))
	})
}
