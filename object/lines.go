package object

import (
	"strings"

	"pollard/api"
	"pollard/code"
	"pollard/label"
)

const lineEnd = "\n"

// line is a line of a body: a word, and what is told by it.
func line(word, told string) string { return word + behindWord + told + lineEnd }

// reader takes the lines of a body, one behind the other. What it takes means nothing when bad is set at the end, so that nobody has to ask at each line.
type reader struct {
	rest string
	bad  bool // a line was of another form
}

// next tells whether the next line begins with that word.
func (r *reader) next(word string) bool { return strings.HasPrefix(r.rest, word+behindWord) }

// take is what the next line tells, which must have that word.
func (r *reader) take(word string) string {
	first, rest, ended := strings.Cut(r.rest, lineEnd)
	told, has := strings.CutPrefix(first, word+behindWord)
	r.bad = r.bad || !ended || !has
	r.rest = rest
	return told
}

// takeID is take of an id that is told by its digits. Another number of them is a fault of the form, which is told ahead of what a check finds.
func (r *reader) takeID(word string) string {
	id, e := code.Unhex(r.take(word))
	r.bad = r.bad || e != api.OK || !mayBeID(id)
	return id
}

// takeKind is take of a kind that is told by its word. A word of none is a fault of the form, too.
func (r *reader) takeKind(word string) int {
	kind := kindOf(r.take(word))
	r.bad = r.bad || kind == 0
	return kind
}

// takeNumber is take of a number.
func (r *reader) takeNumber(word string) uint64 {
	n, e := code.Undec(r.take(word))
	r.bad = r.bad || e != api.OK
	return n
}

// takeText is all that stands behind an empty line, which must come next.
func (r *reader) takeText() string {
	text, has := strings.CutPrefix(r.rest, lineEnd)
	r.bad = r.bad || !has
	r.rest = ""
	return text
}

// mayBeID tells whether bytes are as many as an id has.
func mayBeID(s string) bool { return len(s) == api.IDBytes }

// mayBeText tells whether a text may be that of a commit or a tag.
func mayBeText(s string) bool {
	if len(s) > api.MostText {
		return false
	}
	_, strays := label.Words(s)
	return strays == 0
}
