package code

import (
	"slices"

	"pollard/api"
)

const (
	numBits      = 7            // bits of the number in each byte
	numMore      = 1 << numBits // in a byte behind which more of the number comes
	numMask      = numMore - 1
	mostNumBytes = 9 // so that what is read goes into 64 bits
)

// Num is a number's bytes: seven bits a byte, the highest first; each byte but the last one stands for one more than its bits say.
func Num(n uint64) string {
	out := []byte{byte(n & numMask)}
	for n >= numMore {
		n = n>>numBits - 1
		out = append(out, byte(numMore|n&numMask))
	}
	slices.Reverse(out)
	return string(out)
}

// Unnum is the number at the beginning of bytes, and how many bytes it has.
func Unnum(s string) (uint64, int, api.Errno) {
	n := uint64(0)
	for i := range min(len(s), mostNumBytes) {
		n = n<<numBits | uint64(s[i]&numMask)
		if s[i] < numMore {
			return n, i + 1, api.OK
		}
		n++
	}
	if len(s) >= mostNumBytes {
		return 0, 0, api.ErrBad
	}
	return 0, 0, api.ErrEnd
}
