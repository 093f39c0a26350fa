package pack_test

import (
	"encoding/hex"
	"math"
	"testing"

	"regatta/api"
	"regatta/pack"
)

func bytesOf(t *testing.T, digits string) []byte {
	t.Helper()
	b, e := hex.DecodeString(digits)
	if e != nil {
		t.Fatal(e)
	}
	return b
}

// P12.2: forms that were reckoned by hand; the reader is at their end then.
func TestKnownFormsRead(t *testing.T) {
	for _, k := range knownForms() {
		r := pack.Read(bytesOf(t, k.form))
		if got := read(r, k.kind); !same(got, k.thing) || r.Error() != api.OK || r.Done() != api.OK {
			t.Errorf("%s: %+v, %d, %d", k.form, got, r.Error(), r.Done())
		}
	}
}

// checkNothing: a reader with an error answers nothing, at each call, and the error stays.
func checkNothing(t *testing.T, r *pack.Reader, e api.Errno) {
	t.Helper()
	for range 2 {
		for kind := range kinds {
			if got := read(r, kind); !same(got, thing{kind: kind}) {
				t.Fatalf("with the error %d: %+v", e, got)
			}
			if r.Error() != e || r.Done() != e {
				t.Fatalf("%d, %d, want %d", r.Error(), r.Done(), e)
			}
		}
	}
}

// checkFault: the first call has the error, and all others from then on.
func checkFault(t *testing.T, digits string, kind int, e api.Errno) {
	t.Helper()
	r := pack.Read(bytesOf(t, digits))
	if got := read(r, kind); !same(got, thing{kind: kind}) || r.Error() != e {
		t.Errorf("%s, kind %d: %+v, %d, want %d", digits, kind, got, r.Error(), e)
	}
	checkNothing(t, r, e)
}

// counted are the kinds that begin with a count.
var counted = []int{aCount, aWhole, aText, someWholes, someFixes}

// P12.2: counts that break off.
func TestCountsThatBreakOff(t *testing.T) {
	for _, digits := range []string{"", "80", "81", "ff", "8080", "80808080", "ffffffffffffffff", "808080808080808080", "ffffffffffffffffff"} {
		for _, kind := range counted {
			checkFault(t, digits, kind, api.ErrEnd)
		}
	}
}

// P12.2: counts that aren't in as few bytes as can be: told at their last byte, whatever stands behind.
func TestCountsTooLong(t *testing.T) {
	for _, digits := range []string{"8000", "8100", "ff00", "808000", "ffff00", "80808000", "8080808000", "808080808000", "80808080808000", "8080808080808000", "808080808080808000", "80808080808080808000", "ffffffffffffffffff00"} {
		for _, kind := range counted {
			checkFault(t, digits, kind, api.ErrForm)
			checkFault(t, digits+"05ff80", kind, api.ErrForm)
		}
	}
}

// P12.2: counts above 2^64 - 1: told at their tenth byte, whether it is the last or not, and whether they are too long or not.
func TestCountsTooGreat(t *testing.T) {
	for _, nine := range []string{"808080808080808080", "ffffffffffffffffff", "818080808080808080"} {
		for _, tenth := range []string{"02", "03", "40", "7f", "80", "81", "82", "ff"} {
			for _, behind := range []string{"", "00", "01", "80", "8000", "ffffffff7f"} {
				for _, kind := range counted {
					checkFault(t, nine+tenth+behind, kind, api.ErrForm)
				}
			}
		}
	}
}

// P12.2: the greatest counts are right ones: of a text or a list they are more than is left, however they would come out times eight.
func TestGreatestCounts(t *testing.T) {
	for _, n := range []uint64{1 << 31, 1 << 32, 1<<32 + 1, 1 << 60, 1<<61 - 1, 1 << 61, 1<<61 + 1, 1 << 62, 1<<63 - 1, 1 << 63, 1<<63 + 1, math.MaxUint64 - 7, math.MaxUint64} {
		form := written(t, thing{kind: aCount, count: n})
		for _, kind := range []int{aText, someWholes, someFixes} {
			for _, behind := range []string{"", "00", "0000000000000000", "00000000000000000000000000000000"} {
				checkFault(t, hex.EncodeToString(form)+behind, kind, api.ErrEnd)
			}
		}
		r := pack.Read(form)
		if got := r.Uint(); got != n || r.Done() != api.OK {
			t.Errorf("%d: %d, %d", n, got, r.Done())
		}
	}
}

// P12.2: a Fix needs eight bytes, of whatever kind.
func TestFixThatBreaksOff(t *testing.T) {
	for _, whole := range []string{"00000000000000", "ffffffffffffff", "80008000800080"} {
		for i := 0; i <= len(whole); i += 2 {
			checkFault(t, whole[:i], aFix, api.ErrEnd)
		}
	}
}

// P12.2: texts and lists whose count is more than the bytes that are left, for Fixes more than an eighth of them.
func TestListsThatLack(t *testing.T) {
	noughts := "0000000000000000"
	for _, kind := range []int{aText, someWholes} {
		checkFault(t, "01", kind, api.ErrEnd)
		checkFault(t, "0200", kind, api.ErrEnd)
		checkFault(t, "09"+noughts, kind, api.ErrEnd)
	}
	checkFault(t, "01", someFixes, api.ErrEnd)
	checkFault(t, "01"+noughts[2:], someFixes, api.ErrEnd)
	checkFault(t, "02"+noughts, someFixes, api.ErrEnd)
	checkFault(t, "02"+noughts+noughts[2:], someFixes, api.ErrEnd)
	checkFault(t, "08"+noughts, someFixes, api.ErrEnd)
}

// P12.2: that the count is more than the bytes that are left is told ahead of a number that is too long; behind it, that is told which comes first.
func TestWhichErrorOfAList(t *testing.T) {
	checkFault(t, "038000", someWholes, api.ErrEnd)
	checkFault(t, "028000", someWholes, api.ErrForm)
	checkFault(t, "02008000", someWholes, api.ErrForm)
	checkFault(t, "0280000080", someWholes, api.ErrForm)
	checkFault(t, "028080", someWholes, api.ErrEnd)
	checkFault(t, "03000080", someWholes, api.ErrEnd)
	checkFault(t, "0480808000", someWholes, api.ErrForm)
	checkFault(t, "0502040680", someWholes, api.ErrEnd)
}

// P12.2: lists that have just as many bytes as they need, and more behind them, which stay.
func TestListsThatHaveAll(t *testing.T) {
	for _, k := range knownForms() {
		r := pack.Read(bytesOf(t, k.form+"2a"))
		if got := read(r, k.kind); !same(got, k.thing) {
			t.Errorf("%s: %+v", k.form, got)
		}
		if r.Error() != api.OK || r.Done() != api.ErrLeft || r.Uint() != 42 || r.Done() != api.OK {
			t.Errorf("%s: what is behind it", k.form)
		}
	}
}

// P12.2: one thing behind the other; behind the last there are none.
func TestThingsRead(t *testing.T) {
	r := shuffled(7)
	for range 500 {
		things := someThings(r, r.IntN(9))
		reader := pack.Read(formOf(things...))
		for _, x := range things {
			if got := read(reader, x.kind); !same(got, x) || reader.Error() != api.OK {
				t.Fatalf("%+v, want %+v", got, x)
			}
		}
		if reader.Done() != api.OK {
			t.Fatal(reader.Done())
		}
		read(reader, r.IntN(kinds))
		checkNothing(t, reader, api.ErrEnd)
	}
}

// P12.2: the first error stays, though what stands next would have another one, or none.
func TestFirstErrorStays(t *testing.T) {
	r := pack.Read([]byte{5, 1})
	if len(r.Bytes()) != 0 {
		t.Error("a text")
	}
	checkNothing(t, r, api.ErrEnd)
	r = pack.Read([]byte{3, 2, 0x80, 0, 1, 1, 1})
	if r.Uint() != 3 || len(r.Ints()) != 0 {
		t.Error("a list")
	}
	checkNothing(t, r, api.ErrForm)
	r = pack.Read([]byte{1, 2, 3})
	if r.Fix() != 0 {
		t.Error("a Fix")
	}
	checkNothing(t, r, api.ErrEnd)
}

// P12.3: Done tells what is left, and keeps nothing of it: it may be read on.
func TestBytesLeft(t *testing.T) {
	r := pack.Read([]byte{4, 5, 6})
	for i := range 3 {
		for range 2 {
			if r.Done() != api.ErrLeft || r.Error() != api.OK {
				t.Fatalf("ahead of %d: %d, %d", i, r.Done(), r.Error())
			}
		}
		if n := r.Uint(); n != uint64(4+i) {
			t.Fatal(n)
		}
	}
	for range 2 {
		if r.Done() != api.OK || r.Error() != api.OK {
			t.Fatal(r.Done(), r.Error())
		}
	}
}

// P12.3: an error is told though bytes are left.
func TestErrorAheadOfLeft(t *testing.T) {
	r := pack.Read([]byte{0x80, 0, 5})
	if r.Uint() != 0 || r.Done() != api.ErrForm {
		t.Error(r.Done())
	}
	r = pack.Read([]byte{9, 5})
	if len(r.Bytes()) != 0 || r.Done() != api.ErrEnd {
		t.Error(r.Done())
	}
}

// P12.2, P12.3: a reader of no bytes is one: it has nothing, and that is no error until it is asked.
func TestReaderOfNothing(t *testing.T) {
	for _, b := range [][]byte{nil, {}} {
		if r := pack.Read(b); r.Error() != api.OK || r.Done() != api.OK {
			t.Error(r.Error(), r.Done())
		}
		for kind := range kinds {
			r := pack.Read(b)
			read(r, kind)
			checkNothing(t, r, api.ErrEnd)
		}
	}
}

// P12.3: a nil reader, and one that Read didn't make.
func TestNilReader(t *testing.T) {
	var none *pack.Reader
	var plain pack.Reader
	for _, r := range []*pack.Reader{none, {}, &plain, new(pack.Reader)} {
		if r.Error() != api.ErrNil || r.Done() != api.ErrNil {
			t.Error(r.Error(), r.Done())
		}
		checkNothing(t, r, api.ErrNil)
	}
}

// DOC.md's rule 5: two readers of the same bytes know nothing of one another.
func TestTwoReaders(t *testing.T) {
	b := []byte{1, 2, 3, 4}
	x, y := pack.Read(b), pack.Read(b)
	if x.Uint() != 1 || x.Uint() != 2 || y.Uint() != 1 || len(x.Bytes()) != 0 || y.Uint() != 2 || y.Error() != api.OK || x.Error() != api.ErrEnd {
		t.Error("mixed up")
	}
}
