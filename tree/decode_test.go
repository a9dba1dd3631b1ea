package tree_test

import (
	"slices"
	"strings"
	"testing"

	"pollard/api"
	"pollard/sample"
	"pollard/tree"
)

// Promise 6.1, Decode: all cuts of a tree's bytes; those between two entries are trees.
func TestDecodeCut(t *testing.T) {
	l := ordinary()
	whole := map[int]int{}
	for n := range len(l) + 1 {
		whole[len(bytesOf(l[:n]))] = n
	}
	s := bytesOf(l)
	for k := range len(s) + 1 {
		if n, is := whole[k]; is {
			wantMade(t, l[:n], s[:k])
		} else {
			wantUnread(t, s[:k], api.ErrEnd)
		}
	}
}

// Promise 6.1, Decode: no nought, and fewer than 32 bytes behind it, whatever stands ahead.
func TestDecodeEnd(t *testing.T) {
	for _, s := range []string{"f", " ", "file", "file ", "file a", "what a", "filea", idOf('i'), strings.Repeat("file a ", 100), strings.Repeat("x", 1<<20)} {
		wantUnread(t, s, api.ErrEnd)
		for _, n := range []int{0, 1, 31} {
			wantUnread(t, s+"\x00"+idOf('i')[:n], api.ErrEnd)
			wantUnread(t, s+"\x00"+idOf(0)[:n], api.ErrEnd)
			wantUnread(t, bytesOf(files("a"))+s+"\x00"+idOf('i')[:n], api.ErrEnd)
		}
	}
	wantUnread(t, "\x00", api.ErrEnd)
	wantUnread(t, idOf(0), api.ErrEnd)
}

// Promise 6.1, Decode: no space, and words that are no modes.
func TestDecodeMode(t *testing.T) {
	for _, head := range []string{"", "a", "file", "filea", "tree", "file\ta", "file\u00a0a", " ", " a", " file a", "a file", "what a", "File a", "FILE a", "fil a", "files a", "filetree a", "1 a", "\xff a", "runs a", "trees a", "tre a", "blob a", "dir a", "100644 a", "what ", "what /", "run\n a"} {
		for _, id := range []string{idOf('i'), idOf(' '), idOf(0)} {
			wantUnread(t, head+"\x00"+id, api.ErrMode)
			wantUnread(t, bytesOf(files("a"))+head+"\x00"+id, api.ErrMode)
			wantUnread(t, head+"\x00"+id+bytesOf(files("a")), api.ErrMode)
			wantUnread(t, head+"\x00"+id+"file a", api.ErrMode)
		}
	}
}

// Promise 6.1, Decode: the first space ends the word, the first nought the name; behind it an id has any bytes.
func TestDecodeParts(t *testing.T) {
	for _, name := range []string{" ", "  ", " a", "a ", "a b", "file", "file a", "run", "tree ", "what"} {
		wantMade(t, files(name), "file "+name+"\x00"+idOf('i'))
	}
	ids := []string{idOf(0), idOf(' '), idOf('f'), idOf(0xff), "\x00" + idOf('i')[:31], idOf('i')[:31] + "\x00", " " + idOf('i')[:31], idOf('i')[:31] + " ", "run b\x00" + idOf('i')[:26], "\xc3" + idOf('i')[:31]}
	for n := range 256 {
		ids = append(ids, sample.Text(32 + n)[:32], idOf(byte(n)))
	}
	for _, id := range ids {
		l := files("a", "b")
		l[0].ID, l[1].ID, l[1].Mode = id, id, api.ModeTree
		wantMade(t, l, "file a\x00"+id+"tree b\x00"+id)
	}
}

// Promise 6.1, Decode: names and orders that Check refuses, but behind all that is wrong with the bytes.
func TestDecodeCheck(t *testing.T) {
	fine := bytesOf(files("b"))
	for _, s := range noNames() {
		bad := bytesOf(files(s))
		wantUnread(t, bad, api.ErrLabel)
		wantUnread(t, bad+fine, api.ErrLabel)
		wantUnread(t, fine+bad, api.ErrLabel)
		wantUnread(t, bad+fine+fine, api.ErrLabel)
		wantUnread(t, fine+fine+bad, api.ErrOrder)
		wantUnread(t, bad+"what a\x00"+idOf('i'), api.ErrMode)
		wantUnread(t, bad+"file", api.ErrEnd)
		wantUnread(t, bad+"what a\x00"+idOf('i')+"file", api.ErrMode)
	}
	wantUnread(t, fine+fine, api.ErrOrder)
	wantUnread(t, fine+bytesOf(files("a")), api.ErrOrder)
	wantUnread(t, fine+fine+"what a\x00"+idOf('i'), api.ErrMode)
	wantUnread(t, fine+fine+"file c\x00"+idOf('i')[:31], api.ErrEnd)
}

// Promise 6.1, Decode: too many entries, which are told as soon as they are read, whatever comes behind and whatever they are.
func TestDecodeMuch(t *testing.T) {
	full, over := bytesOf(many(api.MostEntries)), bytesOf(many(api.MostEntries+1))
	wantMade(t, many(api.MostEntries), full)
	for _, rest := range []string{"", "f", "file", "file x\x00" + idOf('i')[:31], "what a\x00" + idOf('i'), "\x00" + idOf(0), bytesOf(files("x")), bytesOf(files("")), bytesOf(files("a"))} {
		wantUnread(t, over+rest, api.ErrMuch)
	}
	wantUnread(t, bytesOf(many(5000)), api.ErrMuch)
	wantUnread(t, strings.Repeat(bytesOf(files("a")), api.MostEntries+1), api.ErrMuch)
	wantUnread(t, strings.Repeat(bytesOf(files("a")), api.MostEntries), api.ErrOrder)
	wantUnread(t, strings.Repeat(bytesOf(files("")), api.MostEntries+1), api.ErrMuch)
	wantUnread(t, strings.Repeat(bytesOf(files("")), api.MostEntries), api.ErrLabel)
	// The one that is too many is read first.
	wantUnread(t, full+"f", api.ErrEnd)
	wantUnread(t, full+"what a\x00"+idOf('i')[:31], api.ErrEnd)
	wantUnread(t, full+"what a\x00"+idOf('i'), api.ErrMode)
	wantUnread(t, full+bytesOf(files("")), api.ErrMuch)
	wantUnread(t, "what a\x00"+idOf('i')+over, api.ErrMode)
}

// Promise 6.1, Decode: bytes of a tree of which one is another one, or is gone, or is there twice, against what the chapter says. What is read is made again.
func TestDecodeSpoilt(t *testing.T) {
	s := bytesOf([]api.Entry{{Name: "a", Mode: 2, ID: idOf('b')}, {Name: "a b", Mode: 1, ID: "\x00 file c\x00" + idOf(' ')[:22]}, {Name: "ö", Mode: 3, ID: idOf('x')}})
	for k := range len(s) {
		wantSlow(t, s[:k]+s[k+1:])
		wantSlow(t, s[k:])
		for c := range 256 {
			wantSlow(t, s[:k]+string([]byte{byte(c)})+s[k+1:])
			wantSlow(t, s[:k]+string([]byte{byte(c)})+s[k:])
		}
	}
}

// Promise 6.1, Decode: entries put together from parts, in any order, against what the chapter says.
func TestDecodeTogether(t *testing.T) {
	heads := []string{"file a", "run ab", "tree b", "file ä", "tree  ", "run /", "what c", "filed", ""}
	ends := []string{"\x00" + idOf('i'), "\x00" + idOf(0), "\x00" + idOf('i')[:31], " "}
	var longer func(s string, n int)
	longer = func(s string, n int) {
		wantSlow(t, s)
		if n == 0 {
			return
		}
		for _, head := range heads {
			for _, end := range ends {
				longer(s+head+end, n-1)
			}
		}
	}
	longer("", 3)
}

func wantSlow(t *testing.T, s string) {
	t.Helper()
	want, e := slowDecode(s)
	if e != api.OK {
		wantUnread(t, s, e)
		return
	}
	got, e := tree.Decode(s)
	if e != api.OK || !slices.Equal(got, want) {
		t.Errorf("Decode(%.200q): %s, %d; wanted %s", s, show(got), e, show(want))
	}
	wantMade(t, want, s)
}
