package loose_test

import (
	"strings"
	"testing"

	"pollard/api"
	"pollard/loose"
	"pollard/vfs"
)

// Promise 8.1: an id's file, by its digits, the first two ahead of the /.
func TestPath(t *testing.T) {
	for id, want := range map[string]string{
		idOf(0):                                "objects/00/" + strings.Repeat("0", 62),
		idOf(0xff):                             "objects/ff/" + strings.Repeat("f", 62),
		idOf('/'):                              "objects/2f/" + strings.Repeat("2f", 31),
		"\xab\xcd" + idOf(0x10)[:30]:           "objects/ab/cd" + strings.Repeat("10", 30),
		idOf(9)[:31] + "\xe5":                  "objects/09/" + strings.Repeat("09", 30) + "e5",
		"\x0a" + strings.Repeat("ä", 15) + "b": "objects/0a/" + strings.Repeat("c3a4", 15) + "62",
	} {
		if got := loose.Path(id); got != want || !vfs.Path(got) {
			t.Errorf("Path(%x): %q, wanted %q", id, got, want)
		}
	}
	for _, raw := range someRaws() {
		if got := loose.Path(sumOf(raw)); got != fileOf(raw) {
			t.Errorf("Path of %.80q: %q", raw, got)
		}
	}
	for _, id := range noIDs() {
		if got := loose.Path(id); got != "" {
			t.Errorf("Path(%.80q): %q", id, got)
		}
	}
}

// Promise 8.1: what Open does, where nothing is there, where objects is, and where objects/incoming is.
func TestOpen(t *testing.T) {
	f := empty(t)
	wantSteps(t, "Open of nothing", f, loose.Open, "mkdir objects", "syncdir", "syncdir objects")
	wantErr(t, "Open", loose.Open(f), api.OK)
	if got := told(t, fallen(f), ""); got != "objects/ " {
		t.Errorf("behind a fall there stands %q", got)
	}
	wantSteps(t, "Open once more", f, loose.Open, "syncdir objects")
	wantErr(t, "Open once more", loose.Open(f), api.OK)
	if got := told(t, f, ""); got != "objects/ " {
		t.Errorf("there stands %q", got)
	}

	play(t, f, "write objects/incoming x", "sync objects/incoming", "syncdir objects")
	wantSteps(t, "Open with something coming in", f, loose.Open, "remove objects/incoming", "syncdir objects")
	wantErr(t, "Open with something coming in", loose.Open(f), api.OK)
	if got := told(t, fallen(f), ""); got != "objects/ " {
		t.Errorf("behind a fall there stands %q", got)
	}
	play(t, f, "mkdir objects/incoming", "syncdir objects")
	wantSteps(t, "Open with a folder there", f, loose.Open, "remove objects/incoming", "syncdir objects")
}

// Promise 8.1: Open leaves all else as it is.
func TestOpenLeaves(t *testing.T) {
	f := ready(t, someRaws()...)
	play(t, f, "write a x", "write objects/b y", "mkdir objects/zz", "write objects/zz/incoming z", "write incoming x")
	ahead := told(t, f, "")
	for range 2 {
		wantErr(t, "Open", loose.Open(f), api.OK)
		if got := told(t, f, ""); got != ahead {
			t.Errorf("there stands %s, wanted %s", got, ahead)
		}
	}
	wantGet(t, f, someRaws()...)
}

// Promise 8.1: Open's errors are those of vfs.
func TestOpenErrors(t *testing.T) {
	wantErr(t, "Open of nil", loose.Open(nil), api.ErrStill)
	wantErr(t, "Open without power", loose.Open(dead(empty(t))), api.ErrStill)
	wantErr(t, "Open without power", loose.Open(dead(ready(t, blob("x")))), api.ErrStill)
	f := empty(t)
	play(t, f, "write objects x")
	wantErr(t, "Open, with a file in the place of objects", loose.Open(f), api.ErrThere)
	f = ready(t)
	play(t, f, "mkdir objects/incoming", "write objects/incoming/x y")
	wantErr(t, "Open, with a folder in the place of objects/incoming", loose.Open(f), api.ErrThere)
	f, _ = vfs.New(0)
	wantErr(t, "Open, with no room", loose.Open(f), api.OK)
}

// Promise 8.1: whether the file can be read, whatever is in it.
func TestHas(t *testing.T) {
	f := ready(t, someRaws()[1:]...)
	for _, raw := range someRaws()[1:] {
		wantHas(t, f, sumOf(raw), true)
		wantHas(t, dead(f), sumOf(raw), false)
		wantHas(t, nil, sumOf(raw), false)
		play(t, f, "write "+fileOf(raw)+" spoilt")
		wantHas(t, f, sumOf(raw), true)
		play(t, f, "write "+fileOf(raw)+" ")
		wantHas(t, f, sumOf(raw), true)
		play(t, f, "remove "+fileOf(raw))
		wantHas(t, f, sumOf(raw), false)
	}
	wantHas(t, f, sumOf(someRaws()[0]), false)
	wantHas(t, empty(t), sumOf(someRaws()[0]), false)
	wantHas(t, f, idOf('i'), false)
	play(t, f, "mkdir objects/69", "mkdir "+loose.Path(idOf('i')), "write incoming x", "write objects/incoming x")
	wantHas(t, f, idOf('i'), false)
	for _, id := range noIDs() {
		wantHas(t, f, id, false)
		wantHas(t, dead(f), id, false)
		wantHas(t, nil, id, false)
	}
}

// Promise 8.1: Drop is Remove of the file.
func TestDrop(t *testing.T) {
	near := neighbours(2)
	f := ready(t, append(near, blob("x"))...)
	for _, raw := range []string{near[0], blob("x")} {
		drop := func(f *vfs.FS) api.Errno { return loose.Drop(f, sumOf(raw)) }
		wantErr(t, "Drop without power", loose.Drop(dead(f), sumOf(raw)), api.ErrStill)
		wantSteps(t, "Drop", f, drop, "remove "+fileOf(raw))
		wantErr(t, "Drop", drop(f), api.OK)
		wantNoGet(t, f, sumOf(raw), api.ErrGone)
		wantErr(t, "Drop once more", drop(f), api.ErrGone)
		wantGet(t, fallen(f), raw)
		wantGet(t, f, near[1])
	}
	wantList(t, f, near[1])
	play(t, f, "write "+fileOf(near[1])+" spoilt")
	wantErr(t, "Drop of what is spoilt", loose.Drop(f, sumOf(near[1])), api.OK)
	wantList(t, f)
	wantErr(t, "Drop of nil", loose.Drop(nil, idOf('i')), api.ErrStill)
	wantErr(t, "Drop of what never was", loose.Drop(f, idOf('i')), api.ErrGone)
	wantErr(t, "Drop in nothing", loose.Drop(empty(t), idOf('i')), api.ErrGone)
	ahead := f.Clone()
	for _, id := range noIDs() {
		wantErr(t, "Drop of what is no id", loose.Drop(f, id), api.ErrPath)
		wantErr(t, "Drop of what is no id, without power", loose.Drop(dead(f), id), api.ErrStill)
	}
	wantSame(t, "Drop of what is no id", f, ahead)
}

// Promise 8.1: what was dropped is gone for sure when it is settled, in each folder.
func TestSettle(t *testing.T) {
	f := ready(t)
	wantSteps(t, "Settle of no folders", f, loose.Settle)
	play(t, f, "write objects/a x", "write objects/00 y")
	wantSteps(t, "Settle of files", f, loose.Settle)
	play(t, f, "remove objects/00")
	raws := append(neighbours(3), someRaws()...)
	wantPut(t, f, raws...)
	for _, raw := range raws {
		wantErr(t, "Drop", loose.Drop(f, sumOf(raw)), api.OK)
	}
	wantGet(t, fallen(f), raws...)
	wantErr(t, "Settle without power", loose.Settle(dead(f)), api.ErrStill)
	wantErr(t, "Settle", loose.Settle(f), api.OK)
	wantList(t, fallen(f))
	for _, raw := range raws {
		wantNoGet(t, fallen(f), sumOf(raw), api.ErrGone)
	}
	wantPut(t, f, raws...)
	wantErr(t, "Settle", loose.Settle(f), api.OK)
	wantGet(t, fallen(f), raws...)
}

// Promise 8.1: Settle is SyncDir of each folder in objects, whatever its name is, and of nothing else.
func TestSettleSteps(t *testing.T) {
	f := ready(t)
	play(t, f, "mkdir objects/0a", "mkdir objects/zz", "mkdir objects/b", "mkdir objects/zz/y", "mkdir d", "syncdir", "syncdir objects",
		"write objects/x x", "write objects/0a/x x", "write objects/b/x x", "write objects/zz/x x", "write objects/zz/y/x x", "write d/x x", "write x x")
	wantSteps(t, "Settle", f, loose.Settle, "syncdir objects/0a", "syncdir objects/b", "syncdir objects/zz")
	wantErr(t, "Settle of nil", loose.Settle(nil), api.ErrStill)
	wantErr(t, "Settle without objects", loose.Settle(empty(t)), api.ErrGone)
	f = empty(t)
	play(t, f, "write objects x")
	wantErr(t, "Settle with a file in the place of objects", loose.Settle(f), api.ErrGone)
}

// Promise 8.1: the ids of all files, rising, spoilt or not.
func TestList(t *testing.T) {
	wantList(t, nil)
	wantList(t, empty(t))
	f := ready(t)
	wantList(t, f)
	raws := append(neighbours(3), someRaws()...)
	for i, raw := range raws {
		wantPut(t, f, raw)
		wantList(t, f, raws[:i+1]...)
	}
	wantList(t, dead(f))
	wantList(t, fallen(f), raws...)
	play(t, f, "write "+fileOf(raws[0])+" spoilt")
	wantList(t, f, raws...)
	wantErr(t, "Drop", loose.Drop(f, sumOf(raws[1])), api.OK)
	wantList(t, f, append(raws[2:], raws[0])...)

	l := loose.List(f)
	l[0] = "changed"
	wantList(t, f, append(raws[2:], raws[0])...)
}

// Promise 8.1: names that say no id.
func TestListOtherNames(t *testing.T) {
	f := ready(t)
	play(t, f, "write objects/incoming x")
	rest := strings.Repeat("c", 62)
	for _, folder := range []string{"0a", "a", "aaa", "0g", "zz", "a-", "..a", "aaaa", "0a0a0a"} {
		play(t, f, "mkdir objects/"+folder)
		for _, name := range []string{"x", "incoming", rest[:60], rest[:61], rest + "c", rest + "cc", "g" + rest[1:], rest[1:] + "g", rest[1:] + "-", rest[1:] + ".", "0x" + rest[2:], rest + ".pack"} {
			play(t, f, "write objects/"+folder+"/"+name+" x")
		}
	}
	// 64 digits, but the / stands elsewhere or nowhere.
	play(t, f, "write objects/a/c"+rest+" x", "write objects/aaa/"+rest[:61]+" x", "write objects/aaaa/"+rest[:60]+" x", "write objects/aa"+rest+" x", "write aa"+rest+" x", "write objects/zz/"+rest+" x", "write objects/0g/"+rest+" x")
	play(t, f, "mkdir 0a", "write 0a/"+rest+" x", "mkdir objects/0b", "mkdir objects/0b/"+rest, "write objects/0b/"+rest+"/x x", "mkdir objects/0a/ab", "write objects/0a/ab/"+rest[:60]+" x", "write objects/0c x")
	for _, great := range []string{"objects/0A/" + rest, "objects/0a/C" + rest[1:], "Objects/0a/" + rest} {
		wantErr(t, "Write of great letters", f.Write(great, "x"), api.ErrPath)
	}
	wantList(t, f)
	play(t, f, "write objects/0a/"+rest+" x")
	if l := loose.List(f); len(l) != 1 || l[0] != "\x0a"+idOf(0xcc)[:31] {
		t.Errorf("List: %x", l)
	}
}
