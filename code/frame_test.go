package code_test

import (
	"encoding/binary"
	"hash/crc32"
	"math/bits"
	"strings"
	"testing"

	"pollard/api"
	"pollard/code"
	"pollard/sample"
)

// checkOf is the check by the library's CRC-32, which takes the lowest bits first.
func checkOf(s string) uint32 {
	turned := []byte(s)
	for i, b := range turned {
		turned[i] = bits.Reverse8(b)
	}
	return bits.Reverse32(crc32.ChecksumIEEE(turned))
}

// withCheck is a text with its check behind it.
func withCheck(s string) string {
	return s + string(binary.BigEndian.AppendUint32(nil, checkOf(s)))
}

func wantUnframe(t *testing.T, s, want string, wantBytes int, wantErr api.Errno) {
	t.Helper()
	got, k, e := code.Unframe(s)
	if got != want || k != wantBytes || e != wantErr {
		t.Errorf("Unframe(%.20x): %.20q, %d, %d; wanted %.20q, %d, %d", s, got, k, e, want, wantBytes, wantErr)
	}
}

// Promise 2.3: checks that are known, and those of the library.
func TestCheck(t *testing.T) {
	for _, c := range []struct {
		s    string
		want uint32
	}{
		{"", 0}, {"123456789", 0xfc891918}, {"\x00", 0xb1f7404b}, {"\x00\x00\x00\x00", 0x38fb2284}, {"\xff\xff\xff\xff", 0xffffffff},
	} {
		if got := code.Check(c.s); got != c.want {
			t.Errorf("Check(%x): %08x, wanted %08x", c.s, got, c.want)
		}
	}
	texts := []string{allBytes(), sample.Text(1 << 16), strings.Repeat("\x00", 1000), strings.Repeat("\xff", 1000)}
	for i := range 256 {
		texts = append(texts, string([]byte{byte(i)}), sample.Text(i))
	}
	for _, s := range texts {
		if got := code.Check(s); got != checkOf(s) {
			t.Errorf("Check of %d bytes: %08x, wanted %08x", len(s), got, checkOf(s))
		}
	}
}

// Promises 2.3 and 2.4: a frame's bytes, and the text again, of lengths around the ends of the number's bytes.
func TestFrame(t *testing.T) {
	if got := code.Frame(""); got != withCheck("\x00") {
		t.Errorf("%x", got)
	}
	if got := code.Frame("text"); got != withCheck("\x04text") {
		t.Errorf("%x", got)
	}
	for _, n := range []int{0, 1, 2, 126, 127, 128, 129, 255, 256, 16511, 16512, 16513, 1 << 16} {
		for _, s := range []string{sample.Text(n), strings.Repeat("\x00", n), strings.Repeat("\xff", n)} {
			f := code.Frame(s)
			if f != withCheck(numOf(uint64(n))+s) {
				t.Errorf("Frame of %d bytes: %.20x", n, f)
			}
			wantUnframe(t, f, s, len(f), api.OK)
		}
	}
}

// Promise 2.3: something behind a frame is left: a byte, or another frame.
func TestUnframeBehind(t *testing.T) {
	for _, s := range []string{"", "a", "text", sample.Text(127), sample.Text(128), sample.Text(20000)} {
		f := code.Frame(s)
		for _, behind := range []string{"\x00", "\xff", "more", f, code.Frame("other"), sample.Text(300)} {
			wantUnframe(t, f+behind, s, len(f), api.OK)
		}
	}
	all, texts := "", []string{"one", "", "three", sample.Text(500)}
	for _, s := range texts {
		all += code.Frame(s)
	}
	for _, want := range texts {
		got, k, e := code.Unframe(all)
		if got != want || e != api.OK {
			t.Fatalf("%.20q, %d", got, e)
		}
		all = all[k:]
	}
	if all != "" {
		t.Errorf("%x is left", all)
	}
}

// Promise 2.3: a frame that is cut anywhere ends too soon.
func TestUnframeCut(t *testing.T) {
	for _, s := range []string{"", "a", "text", sample.Text(127), sample.Text(128), sample.Text(300)} {
		f := code.Frame(s)
		for i := range len(f) {
			wantUnframe(t, f[:i], "", 0, api.ErrEnd)
		}
	}
}

// Promise 2.3: the number's errors come first.
func TestUnframeNumber(t *testing.T) {
	for n := range 9 {
		wantUnframe(t, strings.Repeat("\x80", n), "", 0, api.ErrEnd)
	}
	for _, s := range []string{strings.Repeat("\x80", 9), strings.Repeat("\xff", 9) + "\x00", strings.Repeat("\xff", 100), withCheck(strings.Repeat("\x80", 9))} {
		wantUnframe(t, s, "", 0, api.ErrBad)
	}
}

// Promise 2.3: just MostFrame bytes are read; a frame of more is made, and refused, whether or not its bytes are there and its check is right.
func TestUnframeMost(t *testing.T) {
	most := sample.Text(api.MostFrame)
	f := code.Frame(most)
	wantUnframe(t, f, most, len(f), api.OK)
	wantUnframe(t, f+"more", most, len(f), api.OK)
	wantUnframe(t, f[:len(f)-1], "", 0, api.ErrEnd)
	wantUnframe(t, f[:3], "", 0, api.ErrEnd)
	wantUnframe(t, f[:len(f)-1]+string([]byte{f[len(f)-1] ^ 1}), "", 0, api.ErrBad)

	more := code.Frame(most + "a")
	if more != withCheck(numOf(api.MostFrame+1)+most+"a") {
		t.Error("a frame of more than MostFrame bytes")
	}
	for _, s := range []string{more, more + "a", more[:len(more)-1] + "?", more[:100], code.Num(api.MostFrame + 1)} {
		wantUnframe(t, s, "", 0, api.ErrMuch)
	}
	for _, n := range []uint64{1 << 22, 1<<31 - 1, 1 << 31, 1<<32 - 1, 1 << 32, 1<<32 + 4, 1<<63 - 1, 1 << 63, 1<<63 + 4, first(10) - 1} {
		wantUnframe(t, withCheck(code.Num(n)+"text"), "", 0, api.ErrMuch)
	}
	for _, n := range []uint64{first(10), 1<<64 - 1, 1<<64 - 4} {
		wantUnframe(t, withCheck(code.Num(n)+"text"), "", 0, api.ErrBad)
	}
}

// Promise 2.3: any bit that is turned, and a check of other bytes.
func TestUnframeSpoilt(t *testing.T) {
	for _, s := range []string{"", "a", "text", sample.Text(100)} {
		f := code.Frame(s)
		for i := range len(f) {
			for bit := range 8 {
				spoilt := []byte(f)
				spoilt[i] ^= 1 << bit
				got, k, e := code.Unframe(string(spoilt))
				if e == api.OK || got != "" || k != 0 {
					t.Errorf("bit %d of byte %d of %x: %q, %d, %d", bit, i, f, got, k, e)
				}
				if i > 0 && e != api.ErrBad {
					t.Errorf("bit %d of byte %d of %x: %d", bit, i, f, e)
				}
			}
		}
	}
	c := code.Check("\x04text")
	turned := string([]byte{byte(c), byte(c >> 8), byte(c >> 16), byte(c >> 24)})
	alone := withCheck("text")[4:]
	for _, check := range []string{turned, alone, "\x00\x00\x00\x00", "\xff\xff\xff\xff"} {
		wantUnframe(t, "\x04text"+check, "", 0, api.ErrBad)
		wantUnframe(t, "\x04text"+check+"more", "", 0, api.ErrBad)
	}
}

// Promise 2.4: bytes that are read as a frame are the frame of that text.
func TestFrameOneForm(t *testing.T) {
	for n := range 20 {
		for fill := range 256 {
			s := withCheck(string([]byte{byte(n)}) + strings.Repeat(string([]byte{byte(fill)}), 7))
			got, k, e := code.Unframe(s)
			if (e == api.OK) != (n == 7) || e == api.OK && code.Frame(got) != s[:k] {
				t.Errorf("Unframe(%x): %q, %d, %d", s, got, k, e)
			}
			if e != api.OK && (got != "" || k != 0) {
				t.Errorf("Unframe(%x): %q, %d, %d", s, got, k, e)
			}
		}
	}
}

func BenchmarkCheck(b *testing.B) {
	s := sample.Text(1 << 20)
	b.SetBytes(int64(len(s)))
	all := uint32(0)
	for range b.N {
		all ^= code.Check(s)
	}
	if b.N%2 == 0 && all != 0 {
		b.Error("one text has two checks")
	}
}
