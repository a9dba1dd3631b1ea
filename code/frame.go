package code

import (
	"strings"

	"pollard/api"
)

const checkBytes = 4

// checkWords holds what four bits that leave at the top turn in the others, by the number 04c11db7. (One for eight bits would be longer than a table may be here.)
var checkWords = [16]uint32{
	0x00000000, 0x04c11db7, 0x09823b6e, 0x0d4326d9, 0x130476dc, 0x17c56b6b, 0x1a864db2, 0x1e475005,
	0x2608edb8, 0x22c9f00f, 0x2f8ad6d6, 0x2b4bcb61, 0x350c9b64, 0x31cd86d3, 0x3c8ea00a, 0x384fbdbd,
}

// Check is the check of bytes: their CRC-32, the highest bits first.
func Check(s string) uint32 {
	c := ^uint32(0)
	for i := range len(s) {
		c ^= uint32(s[i]) << 24
		c = c<<4 ^ checkWords[c>>28]
		c = c<<4 ^ checkWords[c>>28]
	}
	return ^c
}

// Frame is a text with its length ahead, and the check of both behind it.
func Frame(s string) string {
	told := Num(uint64(len(s))) + s
	return told + checkText(told)
}

// Unframe is the text of the frame at the beginning of bytes, and how many bytes that has.
func Unframe(s string) (string, int, api.Errno) {
	n, head, e := Unnum(s)
	if e != api.OK {
		return "", 0, e
	}
	if n > api.MostFrame {
		return "", 0, api.ErrMuch
	}
	told := head + int(n)
	end := told + checkBytes
	if len(s) < end {
		return "", 0, api.ErrEnd
	}
	if s[told:end] != checkText(s[:told]) {
		return "", 0, api.ErrBad
	}
	return strings.Clone(s[head:told]), end, api.OK
}

// checkText is the check of bytes as bytes, the highest first.
func checkText(s string) string {
	c := Check(s)
	var out [checkBytes]byte
	for i := range out {
		out[i] = byte(c >> (8 * (checkBytes - 1 - i)))
	}
	return string(out[:])
}
