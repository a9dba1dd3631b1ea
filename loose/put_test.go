package loose_test

import (
	"fmt"
	"strings"
	"testing"

	"pollard/api"
	"pollard/loose"
	"pollard/sample"
	"pollard/vfs"
)

// puts is Put as a call that answers its error alone.
func puts(raw string) func(*vfs.FS) api.Errno {
	return func(f *vfs.FS) api.Errno {
		_, e := loose.Put(f, raw)
		return e
	}
}

// Promise 8.1: objects of each kind are kept under their ids, pressed, each in its file; example 1 of the chapter.
func TestPut(t *testing.T) {
	raws := append(someRaws(), blob(sample.Text(api.MostBody)), blob(strings.Repeat("a", api.MostBody)))
	f := ready(t)
	for i, raw := range raws {
		wantPut(t, f, raw)
		wantGet(t, f, raws[:i+1]...)
		if s, e := f.Read(fileOf(raw)); s != pressed(t, raw) || e != api.OK {
			t.Errorf("the file of %.80q: %.80q, %d", raw, s, e)
		}
		if _, e := f.Read(incoming); e != api.ErrGone {
			t.Errorf("something is still coming in: %d", e)
		}
		steps, ahead := f.Steps(), told(t, f, "")
		wantPut(t, f, raw)
		if f.Steps() != steps || told(t, f, "") != ahead {
			t.Errorf("Put of %.80q once more did something", raw)
		}
	}
	wantList(t, f, raws...)
	wantGet(t, fallen(f), raws...)
}

// Promise 8.1: what Put does, one behind the other.
func TestPutSteps(t *testing.T) {
	near := neighbours(2)
	f := ready(t)
	steps := func(raw string) []string {
		return []string{"write objects/incoming " + pressed(t, raw), "sync objects/incoming", "rename objects/incoming " + fileOf(raw), "syncdir " + folderOf(raw)}
	}
	makes := []string{"mkdir " + folderOf(near[0]), "syncdir objects"}
	wantSteps(t, "the first Put in a folder", f, puts(near[0]), append(makes, steps(near[0])...)...)
	wantPut(t, f, near[0])
	wantSteps(t, "the same Put", f, puts(near[0]))
	wantSteps(t, "the second Put in a folder", f, puts(near[1]), steps(near[1])...)
	play(t, f, "write objects/incoming x")
	wantSteps(t, "Put with something coming in", f, puts(near[1]), steps(near[1])...)
	wantPut(t, f, near[1])
	wantList(t, f, near...)
	wantGet(t, f, near...)
	play(t, f, "write "+fileOf(near[0])+" spoilt")
	wantSteps(t, "Put of what is spoilt", f, puts(near[0]), steps(near[0])...)
	wantErr(t, "Drop", loose.Drop(f, sumOf(near[1])), api.OK)
	wantSteps(t, "Put of what was dropped", f, puts(near[1]), steps(near[1])...)
}

// noRaws are bytes that are no objects, with object.Links' errors.
func noRaws() map[string]api.Errno {
	entry := func(word, name string) string { return word + " " + name + "\x00" + idOf('i') }
	many := ""
	for i := range api.MostEntries + 1 {
		many += entry("file", fmt.Sprintf("f%03d", i))
	}
	commit := "tree " + hexOf('t') + "\nauthor Ann\ntime 7\n\nwhy"
	parents := "tree " + hexOf('t') + "\n"
	for i := range api.MostParents + 1 {
		parents += "parent " + hexOf(byte(i)) + "\n"
	}
	tag := "object " + hexOf('o') + "\nkind blob\nname v\n\nwhy"
	return map[string]api.Errno{
		"": api.ErrBad, "what": api.ErrBad, "blob 4": api.ErrBad, "blob\x00": api.ErrBad, "blob4\x00text": api.ErrBad,
		"blobs 4\x00text": api.ErrKind, " 0\x00": api.ErrKind, "Blob 0\x00": api.ErrKind,
		"blob \x00": api.ErrBad, "blob 04\x00text": api.ErrBad, "blob x\x00text": api.ErrBad, "blob -1\x00": api.ErrBad,
		"blob 262145\x00" + strings.Repeat("a", 262145): api.ErrMuch, "blob 18446744073709551615\x00": api.ErrMuch,
		"blob 5\x00text": api.ErrEnd, "blob 3\x00text": api.ErrRest, "tree 1\x00": api.ErrEnd, "commit 0\x00x": api.ErrRest,
		rawOf("tree", "f"): api.ErrEnd, rawOf("tree", entry("file", "a")[:30]): api.ErrEnd,
		rawOf("tree", entry("what", "a")): api.ErrMode, rawOf("tree", entry("file", "..")): api.ErrLabel,
		rawOf("tree", entry("file", "b")+entry("file", "a")): api.ErrOrder, rawOf("tree", many): api.ErrMuch,
		rawOf("commit", ""): api.ErrBad, rawOf("commit", commit[1:]): api.ErrBad, rawOf("commit", commit+"\xff"): api.ErrBad,
		rawOf("commit", parents+"author Ann\ntime 7\n\n"): api.ErrMuch, rawOf("tag", ""): api.ErrBad,
		rawOf("tag", strings.Replace(tag, "blob", "what", 1)): api.ErrBad, rawOf("tag", tag+"\xff"): api.ErrBad,
	}
}

// Promise 8.1: object.Links' error comes first, and nothing is kept then.
func TestPutNone(t *testing.T) {
	f := ready(t, someRaws()...)
	small, _ := vfs.New(0)
	for raw, want := range noRaws() {
		wantNoPut(t, f, raw, want)
		wantHas(t, f, sumOf(raw), false)
		wantNoPut(t, dead(f), raw, want)
		wantNoPut(t, nil, raw, want)
		wantNoPut(t, empty(t), raw, want)
		wantNoPut(t, small, raw, want)
	}
	wantList(t, f, someRaws()...)
	wantGet(t, f, someRaws()...)

	// Even if such bytes stand where their sum says.
	play(t, f, "mkdir "+folderOf("what"), "write "+fileOf("what")+" "+pressed(t, "what"))
	wantNoPut(t, f, "what", api.ErrBad)
}

// Promise 8.1: a file that is spoilt, or misses its bytes, is mended, for sure.
func TestPutMends(t *testing.T) {
	for _, raw := range someRaws() {
		right := pressed(t, raw)
		for _, wrong := range []string{"", "spoilt", right[:len(right)-1], right + "x", pressed(t, blob("other")), raw} {
			f := ready(t, raw, blob("other"))
			play(t, f, "write "+fileOf(raw)+" "+wrong, "sync "+fileOf(raw))
			wantNoGet(t, f, sumOf(raw), api.ErrSpoilt)
			wantPut(t, f, raw)
			wantGet(t, f, raw, blob("other"))
			wantGet(t, fallen(f), raw, blob("other"))
			wantList(t, f, raw, blob("other"))
		}
	}
}

// Promise 8.1: vfs's first error where folders and files stand otherwise than they should.
func TestPutErrors(t *testing.T) {
	raw := blob("x")
	wantNoPut(t, nil, raw, api.ErrStill)
	wantNoPut(t, dead(empty(t)), raw, api.ErrStill)
	wantNoPut(t, dead(ready(t)), raw, api.ErrStill)
	wantNoPut(t, dead(ready(t, raw)), raw, api.ErrStill)
	wantNoPut(t, empty(t), raw, api.ErrGone)

	f := ready(t)
	play(t, f, "write "+folderOf(raw)+" x")
	wantNoPut(t, f, raw, api.ErrThere)
	f = ready(t)
	play(t, f, "mkdir "+folderOf(raw), "mkdir objects/incoming")
	wantNoPut(t, f, raw, api.ErrDir)
	f = ready(t)
	play(t, f, "mkdir "+folderOf(raw), "mkdir "+fileOf(raw))
	wantErr(t, "Put, with a folder in the place of the file", puts(raw)(f), api.ErrDir)
	wantErr(t, "Put once more", puts(raw)(f), api.ErrDir)
	wantList(t, f)
	wantErr(t, "Open", loose.Open(f), api.OK)
	if _, e := f.Read(incoming); e != api.ErrGone {
		t.Errorf("something is still coming in: %d", e)
	}
}

// Promise 8.1: with no room the error is vfs's, and what is there can be read as before.
func TestPutNoRoom(t *testing.T) {
	near := neighbours(2)
	f := ready(t, append(someRaws(), near[0])...)
	size := len(pressed(t, near[1]))
	for room := range size {
		f.Room(f.Used() + room)
		wantNoPut(t, f, near[1], api.ErrFull)
	}
	wantNoGet(t, f, sumOf(near[1]), api.ErrGone)
	wantPut(t, f, near[0]) // it is there: nothing grows
	wantGet(t, f, append(someRaws(), near[0])...)
	wantGet(t, fallen(f), append(someRaws(), near[0])...)

	// The folder may have been made.
	other := blob("other")
	f.Room(f.Used())
	wantErr(t, "Put with no room", puts(other)(f), api.ErrFull)
	wantList(t, f, append(someRaws(), near[0])...)
	wantGet(t, f, append(someRaws(), near[0])...)

	// What is spoilt stays, until there is room for both.
	play(t, f, "write "+fileOf(near[0])+" x")
	f.Room(f.Used() + len(pressed(t, near[0])) - 1)
	wantNoPut(t, f, near[0], api.ErrFull)
	wantNoGet(t, f, sumOf(near[0]), api.ErrSpoilt)
	f.Room(f.Used() + len(pressed(t, near[0])))
	wantPut(t, f, near[0])
	f.Room(f.Used() + size)
	wantPut(t, f, near[1])
	wantGet(t, f, append(someRaws(), near...)...)
}
