package refs

import (
	"strings"

	"pollard/api"
	"pollard/code"
)

const (
	headWord   = "head"
	behindWord = " "
	lineEnd    = "\n"
)

// Encode is the refs' bytes.
func Encode(r api.Refs) (string, api.Errno) {
	if e := Check(r); e != api.OK {
		return "", e
	}
	var b strings.Builder
	b.WriteString(headWord + behindWord + r.Head + lineEnd)
	for _, x := range r.List {
		b.WriteString(code.Hex(x.ID) + behindWord + x.Name + lineEnd)
	}
	return b.String(), api.OK
}

// Decode is the refs of bytes.
func Decode(s string) (api.Refs, api.Errno) {
	word, head, rest, is := readLine(s)
	if !is || word != headWord {
		return api.Refs{}, api.ErrBad
	}
	r := api.Refs{Head: strings.Clone(head)}
	for rest != "" {
		var digits, name string
		digits, name, rest, is = readLine(rest)
		id, e := code.Unhex(digits)
		// Digits of an id that has another length are a fault of the form, which is told ahead of what Check finds.
		if !is || e != api.OK || !mayBeID(id) {
			return api.Refs{}, api.ErrBad
		}
		// One more than may be is enough for Check to refuse them; the form of the others is still asked for.
		if len(r.List) <= api.MostRefs {
			r.List = append(r.List, api.Ref{Name: strings.Clone(name), ID: id})
		}
	}
	if e := Check(r); e != api.OK {
		return api.Refs{}, e
	}
	return r, api.OK
}

// readLine is the first line of a text, in two at its first space, and what stands behind it; it says whether there is such a line.
func readLine(s string) (word, told, rest string, is bool) {
	line, rest, ended := strings.Cut(s, lineEnd)
	word, told, has := strings.Cut(line, behindWord)
	return word, told, rest, ended && has
}
