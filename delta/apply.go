package delta

import (
	"iter"
	"strings"

	"pollard/api"
	"pollard/code"
)

// Apply is the text that a delta makes of a base, if it has at most so many bytes.
func Apply(base, d string, most int) (string, api.Errno) {
	size, steps, e := readSizes(base, d, most)
	if e != api.OK {
		return "", e
	}
	// The steps are gone over once ahead of building: few bytes may tell of so long a text that it must not be begun unless it comes to its end.
	for _, e := range piecesOf(base, steps, size) {
		if e != api.OK {
			return "", e
		}
	}
	var text strings.Builder
	text.Grow(size)
	for piece := range piecesOf(base, steps, size) {
		text.WriteString(piece)
	}
	return text.String(), api.OK
}

// readSizes is how many bytes the text has, and the bytes of the steps.
func readSizes(base, d string, most int) (int, string, api.Errno) {
	// Both numbers are read ahead of holding the first one against the base: that the second one can't be read comes first.
	from, d, e := readNumber(d)
	if e != api.OK {
		return 0, "", e
	}
	size, d, e := readNumber(d)
	if e != api.OK {
		return 0, "", e
	}
	if from != uint64(len(base)) {
		return 0, "", api.ErrBad
	}
	if most < 0 || size > uint64(most) {
		return 0, "", api.ErrMuch
	}
	return int(size), d, api.OK
}

// readNumber is the first number, and the bytes behind it.
func readNumber(s string) (uint64, string, api.Errno) {
	n, k, e := code.Unnum(s)
	return n, s[k:], e
}

// piecesOf goes over the pieces that steps put together to a text of so many bytes; at an error it ends, with that in place of a piece.
func piecesOf(base, steps string, size int) iter.Seq2[string, api.Errno] {
	return func(yield func(string, api.Errno) bool) {
		rest, left := steps, size
		for left > 0 {
			piece, behind, e := readStep(base, rest, left)
			if !yield(piece, e) || e != api.OK {
				return
			}
			rest = behind
			left -= len(piece)
		}
		if rest != "" {
			yield("", api.ErrRest)
		}
	}
}

// readStep is the piece of the first step, where left are left of the text, and the bytes behind it.
func readStep(base, s string, left int) (string, string, api.Errno) {
	n, s, e := readNumber(s)
	if e != api.OK {
		return "", "", e
	}
	// The place is read ahead of holding the step against what is left: that it can't be read comes first.
	taken, place := n%2 == 1, uint64(0)
	if taken {
		if place, s, e = readNumber(s); e != api.OK {
			return "", "", e
		}
	}
	// It tells one less than there are, held against what is left ahead of all sums, which could run over.
	if n/2 >= uint64(left) {
		return "", "", api.ErrBad
	}
	size := int(n/2) + 1
	if !taken {
		return readPut(s, size)
	}
	if place > uint64(len(base)) || size > len(base)-int(place) {
		return "", "", api.ErrBad
	}
	return base[place:][:size], s, api.OK
}

// readPut is bytes that are put, and those behind them.
func readPut(s string, size int) (string, string, api.Errno) {
	if size > len(s) {
		return "", "", api.ErrEnd
	}
	return s[:size], s[size:], api.OK
}
