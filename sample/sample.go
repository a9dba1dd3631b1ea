// Package sample makes the texts that the tests of several layers ask for. No layer calls it.
package sample

// Text is n bytes of all values, that do not come again soon; the same at each call.
func Text(n int) string {
	b := make([]byte, max(n, 0))
	x := uint32(n)*2654435761 + 1
	for i := range b {
		x = x*1664525 + 1013904223
		b[i] = byte(x >> 24)
	}
	return string(b)
}
