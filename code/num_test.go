package code_test

import (
	"math/big"
	"strings"
	"testing"

	"pollard/api"
	"pollard/code"
	"pollard/sample"
)

// first is the least number of k bytes: all shorter forms stand for those below it. It holds for k up to 10.
func first(k int) uint64 {
	n := uint64(0)
	for i := 1; i < k; i++ {
		n += 1 << (7 * i)
	}
	return n
}

// numOf is the form of a number of k bytes, told by what a form stands for: the numbers of k bytes are counted from the least one on, in 7 bits a byte.
func numOf(n uint64) string {
	k := 1
	for k < 10 && n >= first(k+1) {
		k++
	}
	rest := n - first(k)
	out := make([]byte, k)
	for i := range out {
		out[k-1-i] = byte(rest&127) | 128
		rest >>= 7
	}
	out[k-1] &= 127
	return string(out)
}

// valueOf is what the bytes of a number stand for by the chapter's words.
func valueOf(s string) *big.Int {
	sum := new(big.Int)
	for i := range len(s) {
		bits := int64(s[i] & 127)
		if i < len(s)-1 {
			bits++
		}
		sum.Mul(sum, big.NewInt(128)).Add(sum, big.NewInt(bits))
	}
	return sum
}

func wantUnnum(t *testing.T, s string, want uint64, wantBytes int, wantErr api.Errno) {
	t.Helper()
	if got, k, e := code.Unnum(s); got != want || k != wantBytes || e != wantErr {
		t.Errorf("Unnum(%.40x): %d, %d, %d; wanted %d, %d, %d", s, got, k, e, want, wantBytes, wantErr)
	}
}

// Promise 2.2, with the chapter's example: forms that are written out.
func TestNumKnown(t *testing.T) {
	for _, c := range []struct {
		n uint64
		s string
	}{
		{0, "\x00"}, {1, "\x01"}, {127, "\x7f"},
		{128, "\x80\x00"}, {129, "\x80\x01"}, {255, "\x80\x7f"}, {256, "\x81\x00"}, {16511, "\xff\x7f"},
		{16512, "\x80\x80\x00"}, {16513, "\x80\x80\x01"}, {2113663, "\xff\xff\x7f"},
		{2113664, "\x80\x80\x80\x00"}, {270549119, "\xff\xff\xff\x7f"},
		{270549120, "\x80\x80\x80\x80\x00"},
		{1 << 63, "\xfe\xfe\xfe\xfe\xfe\xfe\xfe\xff\x00"},
		{9295997013522923647, strings.Repeat("\xff", 8) + "\x7f"},
	} {
		if got := code.Num(c.n); got != c.s {
			t.Errorf("Num(%d): %x, wanted %x", c.n, got, c.s)
		}
		wantUnnum(t, c.s, c.n, len(c.s), api.OK)
	}
}

// Promises 2.2 and 2.4: the ends of one byte, of two and so on, and the powers of two.
func TestNumEnds(t *testing.T) {
	numbers := []uint64{1<<64 - 1, 1<<64 - 2}
	for k := 2; k <= 10; k++ {
		numbers = append(numbers, first(k)-2, first(k)-1, first(k), first(k)+1, first(k)+127, first(k)+128)
	}
	for i := range 64 {
		p := uint64(1) << i
		numbers = append(numbers, p-1, p, p+1)
	}
	for n := range uint64(70000) {
		numbers = append(numbers, n)
	}
	for _, n := range numbers {
		s := code.Num(n)
		if s != numOf(n) || valueOf(s).Cmp(new(big.Int).SetUint64(n)) != 0 {
			t.Errorf("Num(%d): %x, wanted %x", n, s, numOf(n))
		}
		if len(s) > 9 {
			wantUnnum(t, s, 0, 0, api.ErrBad)
			continue
		}
		wantUnnum(t, s, n, len(s), api.OK)
		wantUnnum(t, s+"\x80\xff\x00more", n, len(s), api.OK)
	}
}

// Promise 2.2: 2^63 and more goes into nine bytes till these end; what has ten is made, but not read.
func TestNumGreat(t *testing.T) {
	last := first(10) - 1
	if last <= 1<<63 || len(code.Num(last)) != 9 || len(code.Num(last+1)) != 10 {
		t.Errorf("%d: %x, %x", last, code.Num(last), code.Num(last+1))
	}
	wantUnnum(t, code.Num(last), last, 9, api.OK)
	wantUnnum(t, code.Num(last+1), 0, 0, api.ErrBad)
	wantUnnum(t, code.Num(1<<64-1), 0, 0, api.ErrBad)
}

// Promise 2.2: nine bytes that do not end a number are bad, fewer are an end, whatever is behind.
func TestUnnumNoEnd(t *testing.T) {
	for _, c := range []string{"\x80", "\x81", "\xc3", "\xfe", "\xff"} {
		for n := range 9 {
			wantUnnum(t, strings.Repeat(c, n), 0, 0, api.ErrEnd)
		}
		for n := 9; n < 40; n++ {
			wantUnnum(t, strings.Repeat(c, n), 0, 0, api.ErrBad)
		}
		for _, behind := range []string{"\x00", "\x01", "\x7f", "\x80", "\x00\x00", "a"} {
			wantUnnum(t, strings.Repeat(c, 9)+behind, 0, 0, api.ErrBad)
		}
		if _, k, e := code.Unnum(strings.Repeat(c, 8) + "\x00"); k != 9 || e != api.OK {
			t.Error(k, e)
		}
	}
	wantUnnum(t, "", 0, 0, api.ErrEnd)
}

// Promise 2.2: a number that is cut anywhere ends too soon.
func TestUnnumCut(t *testing.T) {
	for k := 1; k <= 9; k++ {
		for _, n := range []uint64{first(k), first(k+1) - 1, first(k) + 77} {
			s := code.Num(n)
			for i := range len(s) {
				wantUnnum(t, s[:i], 0, 0, api.ErrEnd)
			}
		}
	}
}

// Promise 2.4: all bytes that are read as a number are its only form.
func TestNumOneForm(t *testing.T) {
	for i := range 1 << 16 {
		s := string([]byte{byte(i >> 8), byte(i)})
		n, k, e := code.Unnum(s)
		if s[0] >= 128 && s[1] >= 128 {
			wantUnnum(t, s, 0, 0, api.ErrEnd)
			continue
		}
		if e != api.OK || code.Num(n) != s[:k] {
			t.Errorf("Unnum(%x): %d, %d, %d", s, n, k, e)
		}
	}
	bytes := sample.Text(60000)
	for i := range bytes {
		s := bytes[i:min(i+12, len(bytes))]
		if i%2 == 0 {
			// Long forms are rare among these bytes as they stand.
			b := []byte(bytes[i:min(i+9, len(bytes))])
			for j := range len(b) - 1 {
				b[j] |= 128
			}
			s = string(b)
		}
		n, k, e := code.Unnum(s)
		if e == api.OK && (code.Num(n) != s[:k] || valueOf(s[:k]).Cmp(new(big.Int).SetUint64(n)) != 0) {
			t.Errorf("Unnum(%x): %d, %d", s, n, k)
		}
		if e != api.OK && (n != 0 || k != 0) {
			t.Errorf("Unnum(%x): %d, %d, %d", s, n, k, e)
		}
	}
}
