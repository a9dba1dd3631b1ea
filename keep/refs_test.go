package keep_test

import (
	"fmt"
	"strings"
	"testing"

	"pollard/api"
	"pollard/keep"
	"pollard/vfs"
)

// Promise 14.1, Open: where there is no file, the first branch is worked on, no ref is there, and nothing is done.
func TestOpenNothing(t *testing.T) {
	for _, f := range []*vfs.FS{empty(t), {}, made(t, "mkdir objects", "write ref x", "write refs.old x", "mkdir d", "write d/refs x")} {
		ahead := f.Clone()
		wantOpen(t, "no file", f, api.Refs{Head: "heads/main"})
		wantOpen(t, "no file, once more", f, api.Refs{Head: "heads/main"})
		wantSame(t, "Open", f, ahead)
		wantOpen(t, "no file, and a fall", fallen(f), api.Refs{Head: "heads/main"})
	}
}

// Promise 14.1, Open and Save: refs that may be are there again, also behind a fall, in the file of the chapter's form, and no other file is there.
func TestSave(t *testing.T) {
	f := empty(t)
	for _, r := range someRefs() {
		what := "Save of " + show(r)
		wantSteps(t, what, f, saves(r), laySteps("", newFile, refsFile, fileOf(r))...)
		wantErr(t, what, keep.Save(f, r), api.OK)
		for _, g := range []*vfs.FS{f, fallen(f), fallen(fallen(f))} {
			wantTold(t, what, g, refsFile+"="+fileOf(r))
			wantOpen(t, what, g, r)
			wantTold(t, what+", and Open", g, refsFile+"="+fileOf(r))
		}
		wantSteps(t, "Open behind "+what, f, opens)
	}
}

// Promise 14.1: the file's bytes, written out.
func TestFileBytes(t *testing.T) {
	want := "\x10head heads/main\n"
	if s := fileOf(firstRefs()); !strings.HasPrefix(s, want) || len(s) != len(want)+4 {
		t.Fatalf("%q", s)
	}
	f := made(t, "write refs "+fileOf(firstRefs()))
	wantOpen(t, "a file that another one wrote", f, firstRefs())
	long := fileOf(mostRefs()) // a line of 76 bytes, and 256 of 135: 34636 bytes, which three bytes tell
	if len(long) != 3+76+256*135+4 || long[:3] != "\x81\x8d\x4c" {
		t.Fatalf("%d, %q", len(long), long[:3])
	}
}

// Promise 14.1, Open: a refs.new that was left goes, for sure, whatever it is, and whatever refs is.
func TestOpenClears(t *testing.T) {
	r, other := named("heads/a", "heads/a", "tags/v"), named("heads/b", "heads/b")
	lefts := []string{"write refs.new ", "write refs.new spoilt", "write refs.new " + fileOf(other), "write refs.new " + fileOf(r), "mkdir refs.new"}
	for _, left := range lefts {
		what := fmt.Sprintf("%.40q", left)
		f := made(t, left)
		wantSteps(t, "Open with "+what, f, opens, "remove refs.new", "syncdir")
		wantOpen(t, what, f, firstRefs())
		wantTold(t, what, fallen(f), "")

		f = made(t, "write refs "+fileOf(r), left)
		wantSteps(t, "Open with refs and "+what, f, opens, "remove refs.new", "syncdir")
		wantOpen(t, what, f, r)
		wantTold(t, what, f, "refs="+fileOf(r))
		wantTold(t, what, fallen(f), "refs="+fileOf(r))

		f = made(t, "write refs spoilt", left)
		wantNoOpen(t, what, f, api.ErrSpoilt)
		wantTold(t, what, fallen(f), "refs=spoilt")

		f = made(t, "mkdir refs", left)
		wantNoOpen(t, what, f, api.ErrDir)
		wantTold(t, what, fallen(f), "refs/")
	}
}

// Promise 14.1, Open: vfs's errors, and no refs beside them, however well these stand there.
func TestOpenErrors(t *testing.T) {
	for _, r := range someRefs() {
		f := made(t, "write refs "+fileOf(r), "mkdir refs.new", "write refs.new/x y")
		ahead := f.Clone()
		wantNoOpen(t, "refs.new can't go", f, api.ErrThere)
		wantSame(t, "Open", f, ahead)
		wantNoOpen(t, "no power", dead(f), api.ErrStill)
		wantNoOpen(t, "no power", dead(holding(t, r)), api.ErrStill)

		for at := range 2 {
			f := made(t, "write refs "+fileOf(r), "write refs.new x")
			f.Plan([]api.Fall{{At: f.Steps() + at}})
			wantNoOpen(t, fmt.Sprint("a fall at ", at), f, api.ErrStill)
		}
	}
	wantNoOpen(t, "a folder", made(t, "mkdir refs"), api.ErrDir)
	wantNoOpen(t, "a folder, not empty", made(t, "mkdir refs", "write refs/x y"), api.ErrDir)
	wantNoOpen(t, "no power", dead(empty(t)), api.ErrStill)
	wantNoOpen(t, "nil", nil, api.ErrStill)
}

// wantSpoilt wants a file of these bytes to be told as spoilt, and left as it is.
func wantSpoilt(t *testing.T, what string, f *vfs.FS, s string) {
	t.Helper()
	play(t, f, "write refs "+s)
	wantNoOpen(t, what, f, api.ErrSpoilt)
	if got, e := f.Read(refsFile); got != s || e != api.OK {
		t.Errorf("%s: behind Open: %.80q, %d", what, got, e)
	}
}

// Promise 14.1, Open: a byte that is another one, each in its place.
func TestOpenTurned(t *testing.T) {
	for _, r := range []api.Refs{firstRefs(), named("heads/a", "heads/a", "tags/v"), named("heads/main", "tags/a", "tags/b", "tags/c")} {
		s, f := fileOf(r), empty(t)
		for i := range len(s) {
			for turn := 1; turn < 256; turn++ {
				wantSpoilt(t, fmt.Sprintf("byte %d turned by %x", i, turn), f, s[:i]+string([]byte{s[i] ^ byte(turn)})+s[i+1:])
			}
		}
		play(t, f, "write refs "+s)
		wantOpen(t, "as it was", f, r)
	}
	s, f := fileOf(mostRefs()), empty(t)
	for i := 0; i < len(s); i += 97 {
		wantSpoilt(t, fmt.Sprintf("byte %d", i), f, s[:i]+string([]byte{s[i] ^ 1})+s[i+1:])
	}
}

// Promise 14.1, Open: a file that is cut at either end, lacks a byte, has one twice, or has something behind it.
func TestOpenCut(t *testing.T) {
	for _, r := range []api.Refs{firstRefs(), named("heads/a", "heads/a", "tags/v"), named("heads/main", "tags/a", "tags/b", "tags/c")} {
		s, f := fileOf(r), empty(t)
		for i := range len(s) {
			wantSpoilt(t, fmt.Sprint("its first bytes: ", i), f, s[:i])
			wantSpoilt(t, fmt.Sprint("without its first bytes: ", i+1), f, s[i+1:])
			wantSpoilt(t, fmt.Sprint("without byte ", i), f, s[:i]+s[i+1:])
			wantSpoilt(t, fmt.Sprint("noughts from byte ", i), f, s[:i]+strings.Repeat("\x00", len(s)-i+1))
			if s[i] != 0 {
				wantSpoilt(t, fmt.Sprint("a nought ahead of byte ", i), f, s[:i]+"\x00"+s[i:])
			}
		}
		for _, more := range []string{"\x00", "\n", " ", "x", s, s[:1], framed(""), strings.Repeat("\x00", 1000)} {
			wantSpoilt(t, "something behind it", f, s+more)
			wantSpoilt(t, "something ahead of it", f, more+s)
		}
	}
}

// Promise 14.1, Open: a frame of a text that is no refs, and what is no frame.
func TestOpenNoRefs(t *testing.T) {
	f := empty(t)
	right := bytesOf(named("heads/a", "heads/a", "tags/v"))
	for _, text := range []string{
		"", "head", "head ", "head \n", "head heads/main", "heads/main\n", "head heads/main\n\n", " head heads/main\n",
		"head tags/main\n", "head main\n", "Head heads/main\n", "head heads/main\r\n", "head  heads/main\n",
		right[:len(right)-1], right + right, right + "x", right[1:], strings.ToUpper(right),
		strings.Replace(right, "6161", "616", 1), strings.Replace(right, "tags/v", "heads/a", 1), strings.Replace(right, "tags/v", "what", 1),
	} {
		wantSpoilt(t, fmt.Sprintf("frame of %.80q", text), f, framed(text))
		wantSpoilt(t, fmt.Sprintf("no frame: %.80q", text), f, text)
	}
	for e, r := range noRefs() {
		wantSpoilt(t, fmt.Sprint("frame of refs with the error ", e), f, framed(bytesOf(r)))
	}
	wantSpoilt(t, "frame of a frame of refs", f, framed(framed(right)))
	long := strings.Repeat("x", api.MostFrame+1)
	for _, s := range []string{bytesOf(firstRefs()), framed(long[1:]), framed(long), "\x80", strings.Repeat("\x80", 8), strings.Repeat("\x80", 9), strings.Repeat("\xff", 40)} {
		wantSpoilt(t, "no frame of refs", f, s)
	}
}

// Promise 14.1, Save: Encode's error, ahead of vfs's; nothing is done, and what was kept stays.
func TestSaveNoRefs(t *testing.T) {
	for want, r := range noRefs() {
		for _, f := range []*vfs.FS{empty(t), holding(t, mostRefs()), made(t, "write refs.new left"), made(t, "mkdir refs"), {}} {
			ahead := f.Clone()
			wantErr(t, show(r), keep.Save(f, r), want)
			wantSame(t, show(r), f, ahead)
			wantErr(t, show(r), keep.Save(dead(f), r), want)
		}
		wantErr(t, show(r), keep.Save(nil, r), want)
	}
	// Where several are wrong it is the first one.
	both := noRefs()[api.ErrMuch]
	both.Head = ""
	wantErr(t, "Save", keep.Save(empty(t), both), api.ErrMuch)
	wantErr(t, "Save", keep.Save(empty(t), api.Refs{}), api.ErrLabel)
}

// Promise 14.1, Save: vfs's errors; what was kept stays.
func TestSaveErrors(t *testing.T) {
	old := named("heads/a", "heads/a", "tags/v")
	for _, r := range someRefs() {
		wantErr(t, "no power", keep.Save(dead(empty(t)), r), api.ErrStill)
		wantErr(t, "nil", keep.Save(nil, r), api.ErrStill)

		f := holding(t, old)
		for _, room := range []int{0, 1, len(fileOf(r)) - 1} {
			f.Room(f.Used() + room)
			ahead := f.Clone()
			wantErr(t, "no room", keep.Save(f, r), api.ErrFull)
			wantSame(t, "no room", f, ahead)
			wantOpen(t, "no room", f, old)
		}
		f.Room(f.Used() + len(fileOf(r)))
		wantErr(t, "just room", keep.Save(f, r), api.OK)
		wantOpen(t, "just room", f, r)

		f = made(t, "write refs "+fileOf(old), "mkdir refs.new")
		wantErr(t, "a folder in the place of refs.new", keep.Save(f, r), api.ErrDir)
		wantOpen(t, "a folder in the place of refs.new", f, old)
		wantErr(t, "that folder is gone", keep.Save(f, r), api.OK)

		f = made(t, "mkdir refs")
		wantErr(t, "a folder in the place of refs", keep.Save(f, r), api.ErrDir)
		wantTold(t, "a folder in the place of refs", f, "refs/ refs.new="+fileOf(r))
	}
}

// Promise 14.1, Save: over a file that is spoilt, and by way of one that was left.
func TestSaveOver(t *testing.T) {
	r := named("heads/a", "heads/a", "tags/v")
	for _, lines := range [][]string{{"write refs spoilt"}, {"write refs "}, {"write refs.new left"}, {"write refs spoilt", "write refs.new left"}} {
		f := made(t, lines...)
		wantErr(t, "Save", keep.Save(f, r), api.OK)
		wantTold(t, "Save", f, "refs="+fileOf(r))
		wantTold(t, "Save, and a fall", fallen(f), "refs="+fileOf(r))
	}
}

// Rule R2: what is handed in stays as it is, and what is done to it and to what comes out changes nothing that is kept.
func TestKeepsItsOwn(t *testing.T) {
	r := named("heads/a", "heads/a", "heads/b", "tags/x", "tags/y")
	want := named("heads/a", "heads/a", "heads/b")
	room := r.List
	r.List = room[:2]
	f := holding(t, r)
	if all := named("heads/a", "heads/a", "heads/b", "tags/x", "tags/y"); !same(api.Refs{Head: r.Head, List: room}, all) {
		t.Fatal("Save changed what was handed in")
	}
	clear(room)
	got, _ := keep.Open(f)
	other, _ := keep.Open(f)
	clear(got.List)
	_ = append(got.List, api.Ref{Name: "z"})
	if !same(other, want) {
		t.Error(show(other))
	}
	wantOpen(t, "behind changes outside", f, want)
}
