package object_test

import (
	"crypto/sha256"
	"encoding/hex"
	"fmt"
	"math/big"
	"regexp"
	"slices"
	"strings"
	"testing"
	"unicode/utf8"

	"pollard/api"
	"pollard/label"
	"pollard/object"
)

// idOf is an id of one byte, again and again.
func idOf(c byte) string { return strings.Repeat(string([]byte{c}), api.IDBytes) }

// hexOf is the digits of an id of one byte.
func hexOf(c byte) string { return hex.EncodeToString([]byte(idOf(c))) }

// sumOf is the sum by the library.
func sumOf(s string) string {
	b := sha256.Sum256([]byte(s))
	return string(b[:])
}

// someKinds are the kinds, with their words.
func someKinds() map[int]string {
	return map[int]string{1: "blob", 2: "tree", 3: "commit", 4: "tag"}
}

// noKinds are numbers that are no kinds.
func noKinds() []int {
	return []int{0, -1, -2, -3, -4, 5, 6, 255, 256, 257, 1<<32 + 1, 1<<32 + 4, -1 << 63, 1<<63 - 1}
}

// noKindWords are words that are of no kind.
func noKindWords() []string {
	return []string{"", "b", "blo", "blobs", "Blob", "BLOB", "file", "run", "tre", "trees", "commi", "commits", "ta", "tags", "object", "what", "1", "0", "\xff", "blob\t", "\tblob", "tag\n", "blobtree", "ä"}
}

// noIDs are texts that are no ids.
func noIDs() []string {
	return []string{"", "i", idOf('i')[:31], idOf('i') + "i", idOf('i') + idOf('i'), hexOf('i'), strings.Repeat("ä", 32), strings.Repeat("i", 1<<16)}
}

// noRunes are texts that are not all runes.
func noRunes() []string {
	return []string{"\xff", "\x80", "a\xc3", "\xe2\x82", "a\xf0\x9f\x98b", "\xed\xa0\x80", "\xc0\xaf", "\xf4\x90\x80\x80", "ok\n\xfe\nok", strings.Repeat("a", api.MostText-1) + "\xff", strings.Repeat("ä", api.MostText/2-1) + "a\xc3"}
}

// someTexts are texts that may be.
func someTexts() []string {
	return []string{"", "\n", "\n\n", "why", "why\n", "\nwhy", "two\nlines\n", "a\x00b", "\x00", "\x01\x1f\x7f", "\u0085", "\ufffd", "a\ufffdb", "日本\n😀", "\U0010ffff", " ", "tree " + hexOf('t') + "\nauthor a\ntime 0\n\n", "parent " + hexOf('p') + "\n", strings.Repeat("a", api.MostText), strings.Repeat("ä", api.MostText/2), strings.Repeat("\n", api.MostText), strings.Repeat("😀", api.MostText/4)}
}

// noTexts are texts that may not be.
func noTexts() []string {
	return append(noRunes(), strings.Repeat("a", api.MostText+1), strings.Repeat("ä", api.MostText/2)+"a", strings.Repeat("\n", api.MostText+1), strings.Repeat("a", 1<<20))
}

// parents is n ids that are unlike.
func parents(n int) []string {
	var l []string
	for i := range n {
		l = append(l, sumOf(fmt.Sprint("parent", i)))
	}
	return l
}

// ordinary is a commit that may be, with so many parents.
func ordinary(n int) api.Commit {
	return api.Commit{Tree: idOf('t'), Parents: parents(n), Author: "Ann", Time: 7, Text: "why\n"}
}

// ordinaryTag is a tag that may be.
func ordinaryTag() api.Tag {
	return api.Tag{Target: idOf('o'), Kind: api.KindCommit, Name: "v-1", Text: "why\n"}
}

// commitBody is the body of a commit, whether or not it may be.
func commitBody(c api.Commit) string {
	s := fmt.Sprintf("tree %x\n", c.Tree)
	for _, id := range c.Parents {
		s += fmt.Sprintf("parent %x\n", id)
	}
	return s + fmt.Sprintf("author %s\ntime %d\n\n%s", c.Author, c.Time, c.Text)
}

// tagBody is the body of a tag, whether or not it may be; a kind that is none has no word.
func tagBody(x api.Tag) string {
	return fmt.Sprintf("object %x\nkind %s\nname %s\n\n%s", x.Target, someKinds()[x.Kind], x.Name, x.Text)
}

// rawOf is the bytes of an object by the word of its kind, whatever that is.
func rawOf(word, body string) string { return fmt.Sprintf("%s %d\x00%s", word, len(body), body) }

// show is what something holds, cut short.
func show(x any) string { return fmt.Sprintf("%.500s", fmt.Sprintf("%q", x)) }

func sameCommit(c, d api.Commit) bool {
	return c.Tree == d.Tree && slices.Equal(c.Parents, d.Parents) && c.Author == d.Author && c.Time == d.Time && c.Text == d.Text
}

// isNone tells whether a commit is the zero one.
func isNone(c api.Commit) bool { return sameCommit(c, api.Commit{}) }

// wantOpen wants this kind and this body.
func wantOpen(t *testing.T, raw string, kind int, body string) {
	t.Helper()
	if k, b, e := object.Open(raw); k != kind || b != body || e != api.OK {
		t.Errorf("Open(%.80q): %d, %.80q, %d; wanted %d, %.80q", raw, k, b, e, kind, body)
	}
}

// wantShut wants Open and Links to answer this error, and nothing beside it.
func wantShut(t *testing.T, raw string, want api.Errno) {
	t.Helper()
	if k, b, e := object.Open(raw); k != 0 || b != "" || e != want {
		t.Errorf("Open(%.80q): %d, %.80q, %d; wanted %d", raw, k, b, e, want)
	}
	wantNoLinks(t, raw, want)
}

func wantLinks(t *testing.T, raw string, want ...api.Link) {
	t.Helper()
	if l, e := object.Links(raw); e != api.OK || !slices.Equal(l, want) {
		t.Errorf("Links(%.200q): %s, %d; wanted %s", raw, show(l), e, show(want))
	}
}

// wantNoLinks wants this error, and nothing beside it.
func wantNoLinks(t *testing.T, raw string, want api.Errno) {
	t.Helper()
	if l, e := object.Links(raw); len(l) != 0 || e != want {
		t.Errorf("Links(%.200q): %s, %d; wanted %d", raw, show(l), e, want)
	}
}

// wantCommit wants a commit to have just this body, and that to be the commit's.
func wantCommit(t *testing.T, c api.Commit, body string) {
	t.Helper()
	if e := object.CheckCommit(c); e != api.OK {
		t.Errorf("CheckCommit(%s): %d", show(c), e)
	}
	if s, e := object.PutCommit(c); s != body || e != api.OK {
		t.Errorf("PutCommit(%s): %.400q, %d; wanted %.400q", show(c), s, e, body)
	}
	if d, e := object.GetCommit(body); !sameCommit(c, d) || e != api.OK {
		t.Errorf("GetCommit(%.400q): %s, %d; wanted %s", body, show(d), e, show(c))
	}
}

// wantNoCommit wants CheckCommit and PutCommit to answer this error, and no body beside it.
func wantNoCommit(t *testing.T, c api.Commit, want api.Errno) {
	t.Helper()
	if e := object.CheckCommit(c); e != want {
		t.Errorf("CheckCommit(%s): %d; wanted %d", show(c), e, want)
	}
	if s, e := object.PutCommit(c); s != "" || e != want {
		t.Errorf("PutCommit(%s): %.80q, %d; wanted %d", show(c), s, e, want)
	}
}

// wantNoCommitRead wants GetCommit, and Links of such an object, to answer this error, and nothing beside it.
func wantNoCommitRead(t *testing.T, body string, want api.Errno) {
	t.Helper()
	if c, e := object.GetCommit(body); !isNone(c) || e != want {
		t.Errorf("GetCommit(%.400q): %s, %d; wanted %d", body, show(c), e, want)
	}
	if len(body) <= api.MostBody {
		wantNoLinks(t, rawOf("commit", body), want)
	}
}

// wantTag wants a tag to have just this body, and that to be the tag's.
func wantTag(t *testing.T, x api.Tag, body string) {
	t.Helper()
	if e := object.CheckTag(x); e != api.OK {
		t.Errorf("CheckTag(%s): %d", show(x), e)
	}
	if s, e := object.PutTag(x); s != body || e != api.OK {
		t.Errorf("PutTag(%s): %.400q, %d; wanted %.400q", show(x), s, e, body)
	}
	if y, e := object.GetTag(body); x != y || e != api.OK {
		t.Errorf("GetTag(%.400q): %s, %d; wanted %s", body, show(y), e, show(x))
	}
}

// wantNoTag wants CheckTag and PutTag to answer this error, and no body beside it.
func wantNoTag(t *testing.T, x api.Tag, want api.Errno) {
	t.Helper()
	if e := object.CheckTag(x); e != want {
		t.Errorf("CheckTag(%s): %d; wanted %d", show(x), e, want)
	}
	if s, e := object.PutTag(x); s != "" || e != want {
		t.Errorf("PutTag(%s): %.80q, %d; wanted %d", show(x), s, e, want)
	}
}

// wantNoTagRead wants GetTag, and Links of such an object, to answer this error, and nothing beside it.
func wantNoTagRead(t *testing.T, body string, want api.Errno) {
	t.Helper()
	if x, e := object.GetTag(body); x != (api.Tag{}) || e != want {
		t.Errorf("GetTag(%.400q): %s, %d; wanted %d", body, show(x), e, want)
	}
	if len(body) <= api.MostBody {
		wantNoLinks(t, rawOf("tag", body), want)
	}
}

// slowOpen follows the chapter's words byte by byte.
func slowOpen(raw string) (int, string, api.Errno) {
	nought := strings.IndexByte(raw, 0)
	if nought < 0 || !strings.Contains(raw[:nought], " ") {
		return 0, "", api.ErrBad
	}
	space, body := strings.IndexByte(raw, ' '), raw[nought+1:]
	kind := slices.Index([]string{"blob", "tree", "commit", "tag"}, raw[:space]) + 1
	if kind == 0 {
		return 0, "", api.ErrKind
	}
	n, is := slowNumber(raw[space+1 : nought])
	switch {
	case !is:
		return 0, "", api.ErrBad
	case n > 1<<18:
		return 0, "", api.ErrMuch
	case len(body) < int(n):
		return 0, "", api.ErrEnd
	case len(body) > int(n):
		return 0, "", api.ErrRest
	}
	return kind, body, api.OK
}

// slowNumber is a number below 2^64, in the only form of its digits.
func slowNumber(s string) (uint64, bool) {
	n, is := new(big.Int).SetString(s, 10)
	if !is || n.String() != s || !n.IsUint64() {
		return 0, false
	}
	return n.Uint64(), true
}

// slowAuthor follows the chapter's words: a tree's name, but that / may stand in it.
func slowAuthor(s string) bool {
	if len(s) < 1 || len(s) > 64 || s == "." || s == ".." || !utf8.ValidString(s) {
		return false
	}
	return !strings.ContainsFunc(s, func(r rune) bool { return r == 0xfffd || r < 32 || r >= 127 && r <= 159 })
}

func slowText(s string) bool { return len(s) <= 4096 && utf8.ValidString(s) }

// slowCheckCommit follows the chapter's words one by one.
func slowCheckCommit(c api.Commit) api.Errno {
	if len(c.Parents) > 4 {
		return api.ErrMuch
	}
	sorted := slices.Compact(slices.Sorted(slices.Values(c.Parents)))
	bad := len(c.Tree) != 32 || len(sorted) != len(c.Parents) || !slowAuthor(c.Author) || !slowText(c.Text)
	for _, id := range c.Parents {
		bad = bad || len(id) != 32
	}
	if bad {
		return api.ErrBad
	}
	return api.OK
}

var commitForm = regexp.MustCompile(`(?s)^tree ([0-9a-f]{64})\n((?:parent [0-9a-f]{64}\n)*)author ([^\n]*)\ntime ([0-9]*)\n\n(.*)$`)

// slowGetCommit holds a body against its form as a whole.
func slowGetCommit(body string) (api.Commit, api.Errno) {
	parts := commitForm.FindStringSubmatch(body)
	if parts == nil {
		return api.Commit{}, api.ErrBad
	}
	time, is := slowNumber(parts[4])
	if !is {
		return api.Commit{}, api.ErrBad
	}
	c := api.Commit{Tree: unhex(parts[1]), Author: parts[3], Time: time, Text: parts[5]}
	for _, s := range strings.SplitAfter(parts[2], "\n") {
		if s != "" {
			c.Parents = append(c.Parents, unhex(s[len("parent "):len(s)-1]))
		}
	}
	if e := slowCheckCommit(c); e != api.OK {
		return api.Commit{}, e
	}
	return c, api.OK
}

var tagForm = regexp.MustCompile(`(?s)^object ([0-9a-f]{64})\nkind (blob|tree|commit|tag)\nname ([^\n]*)\n\n(.*)$`)

// slowGetTag holds a body against its form as a whole.
func slowGetTag(body string) (api.Tag, api.Errno) {
	parts := tagForm.FindStringSubmatch(body)
	if parts == nil {
		return api.Tag{}, api.ErrBad
	}
	kind := slices.Index([]string{"blob", "tree", "commit", "tag"}, parts[2]) + 1
	x := api.Tag{Target: unhex(parts[1]), Kind: kind, Name: parts[3], Text: parts[4]}
	if !label.Ref("tags/"+x.Name) || !slowText(x.Text) {
		return api.Tag{}, api.ErrBad
	}
	return x, api.OK
}

func unhex(s string) string {
	b, _ := hex.DecodeString(s)
	return string(b)
}

// spoilt are texts that are made of one by another byte in the place of one, by one more, by one that is gone, by a piece that is gone at either end.
func spoilt(s string) func(yield func(string) bool) {
	return func(yield func(string) bool) {
		for k := range len(s) {
			if !yield(s[:k]) || !yield(s[k:]) || !yield(s[:k]+s[k+1:]) {
				return
			}
			for c := range 256 {
				one := string([]byte{byte(c)})
				if !yield(s[:k]+one+s[k+1:]) || !yield(s[:k]+one+s[k:]) {
					return
				}
			}
		}
	}
}
