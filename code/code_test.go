package code_test

import (
	"encoding/hex"
	"math/big"
	"strings"
	"testing"

	"pollard/api"
	"pollard/code"
	"pollard/sample"
)

// allBytes is each value of a byte, once.
func allBytes() string {
	b := make([]byte, 256)
	for i := range b {
		b[i] = byte(i)
	}
	return string(b)
}

func wantUnhex(t *testing.T, s, want string, wantErr api.Errno) {
	t.Helper()
	if got, e := code.Unhex(s); got != want || e != wantErr {
		t.Errorf("Unhex(%.40q): %.40q, %d; wanted %.40q, %d", s, got, e, want, wantErr)
	}
}

func wantUndec(t *testing.T, s string, want uint64, wantErr api.Errno) {
	t.Helper()
	if got, e := code.Undec(s); got != want || e != wantErr {
		t.Errorf("Undec(%.40q): %d, %d; wanted %d, %d", s, got, e, want, wantErr)
	}
}

// Promises 2.1 and 2.4: two small digits a byte, and back.
func TestHex(t *testing.T) {
	for _, s := range []string{"", "\x00", "\xff", "\x0f\xf0", "a", "\x00\x01\x02", "ä", allBytes(), sample.Text(1000), sample.Text(1 << 16)} {
		got := code.Hex(s)
		if got != hex.EncodeToString([]byte(s)) {
			t.Errorf("Hex of %d bytes: %.40q", len(s), got)
		}
		wantUnhex(t, got, s, api.OK)
	}
	if got := code.Hex("\x12\xab\xcd\xef"); got != "12abcdef" {
		t.Error(got)
	}
}

// Promise 2.1: each pair of bytes is two digits, or refused.
func TestUnhexPairs(t *testing.T) {
	const digits = "0123456789abcdef"
	for i := range 256 {
		for j := range 256 {
			high, low := strings.IndexByte(digits, byte(i)), strings.IndexByte(digits, byte(j))
			pair := string([]byte{byte(i), byte(j)})
			if high < 0 || low < 0 {
				wantUnhex(t, pair, "", api.ErrBad)
				continue
			}
			wantUnhex(t, pair, string([]byte{byte(16*high + low)}), api.OK)
		}
	}
}

// Promise 2.1: half a byte, and other letters at every place.
func TestUnhexBad(t *testing.T) {
	const good = "0123456789abcdef"
	for n := 1; n <= len(good); n += 2 {
		wantUnhex(t, good[:n], "", api.ErrBad)
	}
	for i := range good {
		for _, c := range []string{"A", "F", "G", "g", "/", ":", "`", "@", " ", "\n", "\x00", "\x80", "\xb0", "\xff", "-", "_"} {
			wantUnhex(t, good[:i]+c+good[i+1:], "", api.ErrBad)
		}
	}
	for _, s := range []string{"AB", "0x", "0x00", " 00", "00 ", " 0", "0 ", "ä", "00ä", "٣٣", "g", strings.Repeat("0", 9999)} {
		wantUnhex(t, s, "", api.ErrBad)
	}
}

// Promises 2.1 and 2.4: decimal digits around all powers of two and of ten, and back.
func TestDec(t *testing.T) {
	numbers := []uint64{0, 1, 2, 1<<64 - 1}
	for i := range 64 {
		p := uint64(1) << i
		numbers = append(numbers, p-1, p, p+1)
	}
	for p := uint64(1); ; p *= 10 {
		numbers = append(numbers, p-1, p, p+1, 9*(p-1))
		if p > 1<<63/5 {
			break
		}
	}
	for _, n := range numbers {
		got := code.Dec(n)
		if want := new(big.Int).SetUint64(n).String(); got != want {
			t.Errorf("Dec(%d): %q", n, got)
		}
		wantUndec(t, got, n, api.OK)
	}
	if got := code.Dec(1<<64 - 1); got != "18446744073709551615" {
		t.Error(got)
	}
}

// Promise 2.1: a short text is a number in its only form, or refused.
func TestUndecShort(t *testing.T) {
	wantUndec(t, "", 0, api.ErrBad)
	for i := range 256 {
		one := string([]byte{byte(i)})
		if i >= '0' && i <= '9' {
			wantUndec(t, one, uint64(i-'0'), api.OK)
		} else {
			wantUndec(t, one, 0, api.ErrBad)
		}
		for j := range 256 {
			two := one + string([]byte{byte(j)})
			if i >= '1' && i <= '9' && j >= '0' && j <= '9' {
				wantUndec(t, two, uint64(10*(i-'0')+j-'0'), api.OK)
			} else {
				wantUndec(t, two, 0, api.ErrBad)
			}
		}
	}
}

// Promise 2.1: 2^64 and more, noughts ahead, and what other readers of numbers would take.
func TestUndecBad(t *testing.T) {
	for i := range uint64(6) {
		wantUndec(t, "1844674407370955161"+code.Dec(i), 1<<64-6+i, api.OK)
	}
	for _, s := range []string{
		"18446744073709551616", "18446744073709551617", "18446744073709551620", "18446744073709551700",
		"18446744073709551999", "20000000000000000000", "99999999999999999999", "100000000000000000000",
		"184467440737095516150", "36893488147419103232", "340282366920938463463374607431768211456",
		strings.Repeat("9", 100), strings.Repeat("9", 100000), "1" + strings.Repeat("0", 64),
		"00", "01", "007", "00000000000000000000", "018446744073709551615", "000000000000000000000000001", strings.Repeat("0", 100000),
		"+1", "-1", "-0", "+0", "1.0", "1.", ".1", "1e3", "0x10", "0b1", "0o7", "1_000", "1,000", "1 ", " 1", "1\n", "\t1", "1\x00", "1a", "a1", "a", "ff", "٣", "１", "1٣", "\xff", "½",
	} {
		wantUndec(t, s, 0, api.ErrBad)
	}
}

// Promise 2.4: digits that are read are those that are made.
func TestDigitsOneForm(t *testing.T) {
	seed := sample.Text(40000)
	for i := 0; i+24 < len(seed); i += 3 {
		digits := make([]byte, 1+int(seed[i])%22)
		for j := range digits {
			digits[j] = '0' + seed[i+1+j]%10
		}
		s := string(digits)
		want, fits := new(big.Int).SetString(s, 10)
		n, e := code.Undec(s)
		good := fits && want.IsUint64() && want.String() == s
		if good != (e == api.OK) || good && (n != want.Uint64() || code.Dec(n) != s) || !good && n != 0 {
			t.Fatalf("Undec(%q): %d, %d", s, n, e)
		}
	}
}
