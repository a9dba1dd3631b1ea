package tree_test

import (
	"fmt"
	"slices"
	"strconv"
	"strings"
	"testing"

	"pollard/api"
	"pollard/label"
	"pollard/tree"
)

// idOf is an id of one byte, again and again.
func idOf(c byte) string { return strings.Repeat(string([]byte{c}), api.IDBytes) }

func file(name string) api.Entry {
	return api.Entry{Name: name, Mode: api.ModeFile, ID: idOf('i')}
}

func files(names ...string) []api.Entry {
	var l []api.Entry
	for _, s := range names {
		l = append(l, file(s))
	}
	return l
}

// many is n files whose names rise.
func many(n int) []api.Entry {
	var l []api.Entry
	for i := range n {
		l = append(l, file("f"+strconv.Itoa(100000+i)))
	}
	return l
}

// ordinary is a tree of all modes, with ids and names of several kinds.
func ordinary() []api.Entry {
	return []api.Entry{
		{Name: " ", Mode: api.ModeRun, ID: idOf(' ')},
		{Name: "READ ME", Mode: api.ModeFile, ID: idOf(0)},
		{Name: "a", Mode: api.ModeTree, ID: "file a\x00" + idOf('x')[:25]},
		{Name: "a-b", Mode: api.ModeRun, ID: idOf(0xff)},
		{Name: "file", Mode: api.ModeFile, ID: "\x00 \x00 " + idOf('y')[:24] + " \x00 \x00"},
		{Name: "z", Mode: api.ModeTree, ID: idOf('z')},
		{Name: "ä", Mode: api.ModeFile, ID: idOf('i')},
	}
}

// noNames are texts that are no names.
func noNames() []string {
	return []string{"", ".", "..", "/", "a/b", "a\n", "\x1f", "\x7f", "\u0085", "\ufffd", "\xff", "a\xc3", strings.Repeat("a", api.MostLabel+1), strings.Repeat("ä", 33)}
}

// noModes are numbers that are no modes.
func noModes() []int {
	return []int{0, -1, -2, -3, 4, 5, 255, 257, 1<<32 + 1, -1 << 63, 1<<63 - 1}
}

// noIDs are texts that are no ids.
func noIDs() []string {
	return []string{"", "i", idOf('i')[:31], idOf('i') + "i", idOf('i') + idOf('i'), strings.Repeat("ä", 32), strings.Repeat("i", 1<<16)}
}

// fault is something that is wrong in an entry.
type fault struct {
	want  api.Errno
	spoil func(x *api.Entry, ahead string)
}

// faults are in the order in which the chapter names them; ahead is the name ahead of the entry's. The first one's name falls, too, so that both it and the last one are there where the first one is made behind the last.
func faults() []fault {
	return []fault{
		{api.ErrLabel, func(x *api.Entry, ahead string) { x.Name = "" }},
		{api.ErrMode, func(x *api.Entry, ahead string) { x.Mode = 0 }},
		{api.ErrBad, func(x *api.Entry, ahead string) { x.ID = "i" }},
		{api.ErrOrder, func(x *api.Entry, ahead string) { x.Name = ahead }},
	}
}

// show is the first entries of a list, cut short.
func show(l []api.Entry) string {
	var b strings.Builder
	for _, x := range l[:min(len(l), 8)] {
		fmt.Fprintf(&b, "{%.40q %d %.40q}", x.Name, x.Mode, x.ID)
	}
	return fmt.Sprintf("%d: %s", len(l), b.String())
}

func wantCheck(t *testing.T, l []api.Entry, want api.Errno) {
	t.Helper()
	if e := tree.Check(l); e != want {
		t.Errorf("Check(%s): %d; wanted %d", show(l), e, want)
	}
}

// wantUnmade wants Check and Encode to answer this error, and no bytes beside it.
func wantUnmade(t *testing.T, l []api.Entry, want api.Errno) {
	t.Helper()
	wantCheck(t, l, want)
	if s, e := tree.Encode(l); e != want || s != "" {
		t.Errorf("Encode(%s): %.80q, %d; wanted %d", show(l), s, e, want)
	}
}

// wantMade wants entries to be a tree of these bytes, and these to be that tree.
func wantMade(t *testing.T, l []api.Entry, want string) {
	t.Helper()
	wantCheck(t, l, api.OK)
	if s, e := tree.Encode(l); e != api.OK || s != want {
		t.Errorf("Encode(%s): %.200q, %d; wanted %.200q", show(l), s, e, want)
	}
	if m, e := tree.Decode(want); e != api.OK || !slices.Equal(m, l) {
		t.Errorf("Decode(%.200q): %s, %d; wanted %s", want, show(m), e, show(l))
	}
}

// wantUnread wants this error, and no entries beside it.
func wantUnread(t *testing.T, s string, want api.Errno) {
	t.Helper()
	if l, e := tree.Decode(s); e != want || len(l) != 0 {
		t.Errorf("Decode(%.200q): %s, %d; wanted %d", s, show(l), e, want)
	}
}

// bytesOf is the bytes of entries, whether or not they are a tree.
func bytesOf(l []api.Entry) string {
	words := map[int]string{1: "file", 2: "run", 3: "tree"}
	s := ""
	for _, x := range l {
		s += words[x.Mode] + " " + x.Name + "\x00" + x.ID
	}
	return s
}

// slowCheck follows the chapter's words one by one.
func slowCheck(l []api.Entry) api.Errno {
	if len(l) > 256 {
		return api.ErrMuch
	}
	ahead := ""
	for _, x := range l {
		switch {
		case !label.Name(x.Name):
			return api.ErrLabel
		case x.Mode != 1 && x.Mode != 2 && x.Mode != 3:
			return api.ErrMode
		case len(x.ID) != 32:
			return api.ErrBad
		case slices.Compare([]byte(ahead), []byte(x.Name)) >= 0:
			return api.ErrOrder
		}
		ahead = x.Name
	}
	return api.OK
}

// slowDecode follows the chapter's words byte by byte.
func slowDecode(s string) ([]api.Entry, api.Errno) {
	var l []api.Entry
	for at := 0; at < len(s); {
		nought := at
		for nought < len(s) && s[nought] != 0 {
			nought++
		}
		if nought+33 > len(s) {
			return nil, api.ErrEnd
		}
		space := at
		for space < nought && s[space] != ' ' {
			space++
		}
		mode := slices.Index([]string{"file", "run", "tree"}, s[at:space]) + 1
		if space == nought || mode == 0 {
			return nil, api.ErrMode
		}
		l = append(l, api.Entry{Name: s[space+1 : nought], Mode: mode, ID: s[nought+1 : nought+33]})
		if len(l) > 256 {
			return nil, api.ErrMuch
		}
		at = nought + 33
	}
	if e := slowCheck(l); e != api.OK {
		return nil, e
	}
	return l, api.OK
}
