package walk_test

import (
	"fmt"
	"math"
	"slices"
	"strings"
	"testing"

	"pollard/api"
	"pollard/walk"
)

// idOf is an id that is easy to read; it is not the sum of anything, and walks do not ask for that.
func idOf(name string) string {
	return name + strings.Repeat(".", api.IDBytes-len(name))
}

// idsOf is the ids of names with spaces between.
func idsOf(names string) []string {
	var l []string
	for _, name := range strings.Fields(names) {
		l = append(l, idOf(name))
	}
	return l
}

// nameOf is the name of an id, for messages.
func nameOf(id string) string { return strings.TrimRight(id, ".") }

// namesOf is the names of ids, with spaces between.
func namesOf(ids []string) string {
	var l []string
	for _, id := range ids {
		l = append(l, nameOf(id))
	}
	return strings.Join(l, " ")
}

// linkOf is a link of a word and a name, as "tree a".
func linkOf(s string) api.Link {
	word, name, _ := strings.Cut(s, " ")
	kind := slices.Index([]string{"", "blob", "tree", "commit", "tag"}, word)
	return api.Link{Kind: kind, ID: idOf(name)}
}

// linksOf is links with commas between.
func linksOf(s string) []api.Link {
	var l []api.Link
	for x := range strings.SplitSeq(s, ", ") {
		if x != "" {
			l = append(l, linkOf(x))
		}
	}
	return l
}

// wordOf is the word of a kind.
func wordOf(kind int) string { return []string{"none", "blob", "tree", "commit", "tag"}[kind] }

// someKinds are all kinds.
func someKinds() []int { return []int{api.KindBlob, api.KindTree, api.KindCommit, api.KindTag} }

// noKinds are numbers that are no kinds.
func noKinds() []int {
	return []int{0, -1, -2, -3, -4, 5, 6, 255, 257, 258, 259, 260, 1<<32 + 1, 1<<32 + 2, 1<<32 + 3, 1<<32 + 4, math.MinInt, math.MaxInt}
}

// someErrors are errors that a getter may tell, such as no layer knows among them.
func someErrors() []api.Errno {
	return []api.Errno{api.ErrAsk, api.ErrGone, api.ErrMuch, api.ErrEnd, api.ErrRest, api.ErrBad, api.ErrStill, api.ErrPath, api.ErrDir, api.ErrThere, api.ErrFull, api.ErrKind, api.ErrSpoilt, api.ErrChain, 1000, -1, math.MinInt, math.MaxInt}
}

// rawOf is the bytes of an object by the word of its kind, whatever that is.
func rawOf(word, body string) string { return fmt.Sprintf("%s %d\x00%s", word, len(body), body) }

// blob is the bytes of a blob.
func blob(body string) string { return rawOf("blob", body) }

// folder is the bytes of a tree, of links to trees and blobs in their order.
func folder(links string) string {
	var body strings.Builder
	for i, l := range linksOf(links) {
		mode := []string{"file", "run"}[i%2]
		if l.Kind == api.KindTree {
			mode = "tree"
		}
		fmt.Fprintf(&body, "%s n%03d\x00%s", mode, i, l.ID)
	}
	return rawOf("tree", body.String())
}

// commit is the bytes of a commit, by the names of its tree and its parents.
func commit(tree, parents string) string {
	var body strings.Builder
	fmt.Fprintf(&body, "tree %x\n", idOf(tree))
	for _, id := range idsOf(parents) {
		fmt.Fprintf(&body, "parent %x\n", id)
	}
	body.WriteString("author Ann\ntime 7\n\nwhy")
	return rawOf("commit", body.String())
}

// tag is the bytes of a tag, by its target.
func tag(link string) string {
	l := linkOf(link)
	return rawOf("tag", fmt.Sprintf("object %x\nkind %s\nname v-1\n\nhere", l.ID, wordOf(l.Kind)))
}

// ordinary is the bytes of an object of a kind, which names nothing where that may be, and else a blob "x" or a tree "e".
func ordinary(kind int) string {
	return map[int]string{api.KindBlob: blob("any"), api.KindTree: folder(""), api.KindCommit: commit("e", ""), api.KindTag: tag("blob x")}[kind]
}

// noObjects are texts that are no objects' bytes, each with the error of object.Open.
func noObjects() map[string]api.Errno {
	return map[string]api.Errno{
		"":                    api.ErrBad,
		"blob":                api.ErrBad,
		"blob 0":              api.ErrBad,
		"blob\x000 ":          api.ErrBad,
		"\x00":                api.ErrBad,
		"what 0\x00":          api.ErrKind,
		" 0\x00":              api.ErrKind,
		"Blob 0\x00":          api.ErrKind,
		"trees 0\x00":         api.ErrKind,
		"blob \x00":           api.ErrBad,
		"tree 00\x00":         api.ErrBad,
		"tag 0x\x00":          api.ErrBad,
		"commit -1\x00":       api.ErrBad,
		"blob 1\x00":          api.ErrEnd,
		"tree 40\x00file a":   api.ErrEnd,
		"commit 9\x00":        api.ErrEnd,
		"tag 1\x00xx":         api.ErrRest,
		"blob 0\x00x":         api.ErrRest,
		"tree 262145\x00":     api.ErrMuch,
		"blob 9999999999\x00": api.ErrMuch,
	}
}

// noBodies are bytes that object.Open takes and object.Links does not, each with its error.
func noBodies() map[string]api.Errno {
	entry := "file a\x00" + idOf("a")
	id := fmt.Sprintf("%x", idOf("a"))
	return map[string]api.Errno{
		rawOf("tree", "x"):                                             api.ErrEnd,
		rawOf("tree", "file a"):                                        api.ErrEnd,
		rawOf("tree", "file a\x00short"):                               api.ErrEnd,
		rawOf("tree", entry+"x"):                                       api.ErrEnd,
		rawOf("tree", "what a\x00"+idOf("a")):                          api.ErrMode,
		rawOf("tree", "file ..\x00"+idOf("a")):                         api.ErrLabel,
		rawOf("tree", entry+entry):                                     api.ErrOrder,
		folder(strings.Repeat("blob a, ", 257)):                        api.ErrMuch,
		rawOf("commit", ""):                                            api.ErrBad,
		rawOf("commit", "tree "+id+"\n"):                               api.ErrBad,
		rawOf("commit", "tree "+id[2:]+"\nauthor Ann\ntime 7\n\nwhy"):  api.ErrBad,
		rawOf("commit", "tree "+id+"\nauthor Ann\ntime 07\n\nwhy"):     api.ErrBad,
		rawOf("commit", "tree "+id+"\nauthor Ann\ntime 7\n\n\xff"):     api.ErrBad,
		commit("a", "b b"):                                             api.ErrBad,
		commit("a", "b c d f g"):                                       api.ErrMuch,
		rawOf("tag", ""):                                               api.ErrBad,
		rawOf("tag", "object "+id+"\nkind blobs\nname v-1\n\nhere"):    api.ErrBad,
		rawOf("tag", "object "+id+"\nkind blob\nname v/../1\n\nhere"):  api.ErrBad,
		rawOf("tag", "object "+id[2:]+"\nkind blob\nname v-1\n\nhere"): api.ErrBad,
	}
}

// store is objects' bytes by the names of their ids, whatever these are.
type store map[string]string

// get is a getter of what is in a store.
func (s store) get(id string) (string, api.Errno) {
	raw, is := s[nameOf(id)]
	if !is {
		return "", api.ErrGone
	}
	return raw, api.OK
}

// noted is a getter that writes down the ids it is asked for.
func (s store) noted(l *[]string) walk.Getter {
	return func(id string) (string, api.Errno) {
		*l = append(*l, id)
		return s.get(id)
	}
}

// noGetters are functions that tell nothing.
func noGetters() map[string]walk.Getter {
	return map[string]walk.Getter{
		"nil":               nil,
		"panics":            func(id string) (string, api.Errno) { panic(id) },
		"panics of its own": func(id string) (string, api.Errno) { var none []int; return string(rune(none[len(id)])), api.OK },
		"panics with nil":   func(id string) (string, api.Errno) { panic(error(nil)) },
	}
}

// amongst is a stop that tells those with some names.
func amongst(names string) func(id string) bool {
	ids := idsOf(names)
	return func(id string) bool { return slices.Contains(ids, id) }
}

// wantIDs asks for a walk's answer: just these ids, by their names, and no error.
func wantIDs(t *testing.T, what string, get walk.Getter, from []api.Link, stop func(id string) bool, names string) {
	t.Helper()
	ids, at, e := walk.Closure(get, from, stop)
	if e != api.OK || at != (api.Link{}) || !slices.Equal(ids, idsOf(names)) {
		t.Errorf("%.80q: %.80q, at %d %.40q, error %d; want %.80q", what, namesOf(ids), at.Kind, at.ID, e, names)
	}
}

// wantErr asks for a walk's answer: no ids, a link, and an error.
func wantErr(t *testing.T, what string, get walk.Getter, from []api.Link, stop func(id string) bool, want api.Link, err api.Errno) {
	t.Helper()
	ids, at, e := walk.Closure(get, from, stop)
	if e != err || at != want || len(ids) != 0 {
		t.Errorf("%.80q: %.80q, at %d %.40q, error %d; want none, at %d %.40q, error %d", what, namesOf(ids), at.Kind, at.ID, e, want.Kind, want.ID, err)
	}
}
