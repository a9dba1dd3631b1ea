package refs_test

import (
	"encoding/hex"
	"fmt"
	"regexp"
	"slices"
	"strings"
	"testing"

	"pollard/api"
	"pollard/refs"
)

const mainHead = "heads/main"

// idOf is an id of one byte, again and again.
func idOf(c byte) string { return strings.Repeat(string([]byte{c}), api.IDBytes) }

// hexOf is the digits of an id of one byte.
func hexOf(c byte) string { return hex.EncodeToString([]byte(idOf(c))) }

// named is refs with these names, whose ids are told by the first one's letter on.
func named(names ...string) api.Refs {
	r := api.Refs{Head: mainHead}
	for i, s := range names {
		r.List = append(r.List, api.Ref{Name: s, ID: idOf(byte('a' + i))})
	}
	return r
}

// ordinary is branches and tags, the branch that is worked on among them.
func ordinary() api.Refs {
	return named("heads/a", "heads/main", "heads/z", "tags/v1", "tags/v2")
}

// many is n tags whose names rise.
func many(n int) api.Refs {
	r := api.Refs{Head: mainHead}
	for i := range n {
		r.List = append(r.List, api.Ref{Name: fmt.Sprintf("tags/%06d", i), ID: idOf(byte(i))})
	}
	return r
}

// noIDs are texts that are no ids.
func noIDs() []string {
	return []string{"", "i", idOf('i')[:31], idOf('i') + "i", idOf('i') + idOf('i'), hexOf('i'), strings.Repeat("ä", 32), strings.Repeat("i", 1<<16)}
}

// noRefNames are texts that are no ref's names.
func noRefNames() []string {
	out := []string{"", "what", "main", "heads", "tags", "heads/", "tags/", "/heads/a", "Heads/a", "heads//a", "heads/a/b", "heads/A", "heads/a b", "heads/a.b", "heads/ä", "heads/a\n", "heads/\xff", "heads/a\x00", " heads/a", "tags/a ", "refs/heads/a", "head/a", "tag/a", "heads/../a", "tags\\a"}
	long := strings.Repeat("a", api.MostLabel+1)
	return append(out, "heads/"+long, "tags/"+long)
}

// noHeads are texts that are no branch's names.
func noHeads() []string {
	return append(noRefNames(), "tags/a", "tags/main", "tags/v1", "tags/"+strings.Repeat("a", api.MostLabel))
}

// show is refs, cut short.
func show(r api.Refs) string {
	var b strings.Builder
	for _, x := range r.List[:min(len(r.List), 8)] {
		fmt.Fprintf(&b, "{%.40q %.40q}", x.Name, x.ID)
	}
	return fmt.Sprintf("%.40q, %d: %s", r.Head, len(r.List), b.String())
}

func same(a, b api.Refs) bool { return a.Head == b.Head && slices.Equal(a.List, b.List) }

// copied is refs that share no list with these.
func copied(r api.Refs) api.Refs { return api.Refs{Head: r.Head, List: slices.Clone(r.List)} }

// spoilt is each text that is this one but for a byte: gone, there twice, turned, or one of those that mean something here.
func spoilt(s string) []string {
	var out []string
	for i := range len(s) {
		out = append(out, s[:i]+s[i+1:], s[:i]+s[i:i+1]+s[i:])
		for _, c := range []byte{0, '\n', '\r', ' ', '/', '0', 'f', 'g', 'A', 'z', 0xff, s[i] ^ 1, s[i] ^ 0x20, s[i] ^ 0x80} {
			out = append(out, s[:i]+string([]byte{c})+s[i+1:])
		}
	}
	return out
}

// fault is something that is wrong in a ref.
type fault struct {
	want  api.Errno
	spoil func(x *api.Ref, ahead string)
}

// faults are in the order in which the chapter names them; ahead is the name ahead of the ref's. A name that may not be falls, too, so that the first one and the last one are both there in one ref.
func faults() []fault {
	return []fault{
		{api.ErrLabel, func(x *api.Ref, ahead string) { x.Name = "" }},
		{api.ErrBad, func(x *api.Ref, ahead string) { x.ID = "i" }},
		{api.ErrOrder, func(x *api.Ref, ahead string) { x.Name = ahead }},
	}
}

var (
	refName  = regexp.MustCompile(`\A(heads|tags)/[a-z0-9_-]{1,64}\z`)
	headName = regexp.MustCompile(`\Aheads/[a-z0-9_-]{1,64}\z`)
	form     = regexp.MustCompile(`\Ahead [^\n]*\n([0-9a-f]{64} [^\n]*\n)*\z`)
)

// slowCheck follows the chapter's words one by one.
func slowCheck(r api.Refs) api.Errno {
	if len(r.List) > 256 {
		return api.ErrMuch
	}
	if !headName.MatchString(r.Head) {
		return api.ErrLabel
	}
	for i, x := range r.List {
		if !refName.MatchString(x.Name) {
			return api.ErrLabel
		}
		if len(x.ID) != 32 {
			return api.ErrBad
		}
		if i > 0 && strings.Compare(x.Name, r.List[i-1].Name) <= 0 {
			return api.ErrOrder
		}
	}
	return api.OK
}

// slowDecode follows the chapter's words one by one.
func slowDecode(s string) (api.Refs, api.Errno) {
	if !form.MatchString(s) {
		return api.Refs{}, api.ErrBad
	}
	lines := strings.Split(strings.TrimSuffix(s, "\n"), "\n")
	r := api.Refs{Head: lines[0][5:]}
	for _, line := range lines[1:] {
		id, _ := hex.DecodeString(line[:64])
		r.List = append(r.List, api.Ref{Name: line[65:], ID: string(id)})
	}
	if e := slowCheck(r); e != api.OK {
		return api.Refs{}, e
	}
	return r, api.OK
}

// bytesOf is the bytes of refs, whether or not they may be.
func bytesOf(r api.Refs) string {
	var b strings.Builder
	fmt.Fprintf(&b, "head %s\n", r.Head)
	for _, x := range r.List {
		fmt.Fprintf(&b, "%x %s\n", x.ID, x.Name)
	}
	return b.String()
}

func wantCheck(t *testing.T, r api.Refs, want api.Errno) {
	t.Helper()
	if e := refs.Check(r); e != want {
		t.Errorf("Check(%s): %d; wanted %d", show(r), e, want)
	}
}

func wantGet(t *testing.T, r api.Refs, name, want string) {
	t.Helper()
	if id := refs.Get(r, name); id != want {
		t.Errorf("Get(%s, %.80q): %.80q; wanted %.80q", show(r), name, id, want)
	}
}

// wantSwitched wants these refs, with another Head.
func wantSwitched(t *testing.T, r api.Refs, head string) {
	t.Helper()
	want := copied(r)
	want.Head = head
	if got, e := refs.Switch(r, head); e != api.OK || !same(got, want) {
		t.Errorf("Switch(%s, %.80q): %s, %d", show(r), head, show(got), e)
	}
}

// wantUnswitched wants this error, and no refs beside it.
func wantUnswitched(t *testing.T, r api.Refs, head string, want api.Errno) {
	t.Helper()
	if got, e := refs.Switch(r, head); e != want || !same(got, api.Refs{}) {
		t.Errorf("Switch(%s, %.80q): %s, %d; wanted %d", show(r), head, show(got), e, want)
	}
}

// wantUnmade wants Check, Encode and, with no updates, Apply to answer this error; beside it no bytes, and the refs as they were.
func wantUnmade(t *testing.T, r api.Refs, want api.Errno) {
	t.Helper()
	wantCheck(t, r, want)
	if s, e := refs.Encode(r); e != want || s != "" {
		t.Errorf("Encode(%s): %.80q, %d; wanted %d", show(r), s, e, want)
	}
	if got, e := refs.Apply(r, nil, nil); e != want || !same(got, r) {
		t.Errorf("Apply(%s, no updates): %s, %d; wanted %d", show(r), show(got), e, want)
	}
}

// wantMade wants refs to have these bytes, and these to be those refs.
func wantMade(t *testing.T, r api.Refs, want string) {
	t.Helper()
	wantCheck(t, r, api.OK)
	if s, e := refs.Encode(r); e != api.OK || s != want {
		t.Errorf("Encode(%s): %.200q, %d; wanted %.200q", show(r), s, e, want)
	}
	if got, e := refs.Decode(want); e != api.OK || !same(got, r) {
		t.Errorf("Decode(%.200q): %s, %d; wanted %s", want, show(got), e, show(r))
	}
}

// wantUnread wants this error, and no refs beside it.
func wantUnread(t *testing.T, s string, want api.Errno) {
	t.Helper()
	if got, e := refs.Decode(s); e != want || !same(got, api.Refs{}) {
		t.Errorf("Decode(%.200q): %s, %d; wanted %d", s, show(got), e, want)
	}
}
