package sum

import (
	"encoding/binary"
	"strings"
	"testing"
)

// Promises 1.1 and 1.2 at lengths whose bits do not go into 32, which would take long to write.
func TestPaddingOfGreatLengths(t *testing.T) {
	for _, length := range []uint64{0, 55, 56, 63, 64, 1<<29 - 1, 1 << 29, 1<<29 + 1, 1<<31 - 1, 1 << 32, 1<<61 - 1} {
		p := padding(length)
		noughts := len(p) - 1 - lengthBytes
		if noughts < 0 || noughts >= blockBytes || (length+uint64(len(p)))%blockBytes != 0 {
			t.Errorf("%d bytes: %d of padding", length, len(p))
			continue
		}
		if !strings.HasPrefix(p, "\x80"+strings.Repeat("\x00", noughts)) {
			t.Errorf("%d bytes: %x", length, p)
		}
		if got := binary.BigEndian.Uint64([]byte(p[1+noughts:])); got != length*8 {
			t.Errorf("%d bytes: told as %d bits", length, got)
		}
	}
}
