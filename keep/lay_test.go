package keep_test

import (
	"fmt"
	"strings"
	"testing"

	"pollard/api"
	"pollard/keep"
	"pollard/vfs"
)

// laySteps is what Lay does, by the chapter's words.
func laySteps(dir, by, path, s string) []string {
	return []string{"write " + by + " " + s, "sync " + by, "rename " + by + " " + path, strings.TrimSpace("syncdir " + dir)}
}

// wantLay wants Lay to do its steps up to the first error, which is this one, and this to stand there then.
func wantLay(t *testing.T, f *vfs.FS, dir, by, path, s string, want api.Errno, stands string) {
	t.Helper()
	what := fmt.Sprintf("Lay(%q, %q, %q, %.40q)", dir, by, path, s)
	wantSteps(t, what, f, lays(dir, by, path, s), laySteps(dir, by, path, s)...)
	f = f.Clone()
	wantErr(t, what, keep.Lay(f, dir, by, path, s), want)
	wantTold(t, what, f, stands)
	if want == api.OK {
		wantTold(t, what+", and a fall", fallen(f), stands)
	}
}

// Promise 14.1, Lay: a file that comes, and one that stands there already, at the top and in a folder.
func TestLay(t *testing.T) {
	for _, s := range []string{"", "x", "two lines\nand more ", "\x00\xff", strings.Repeat("long ", 1000)} {
		wantLay(t, empty(t), "", "by", "x", s, api.OK, "x="+s)
		wantLay(t, made(t, "write x old"), "", "by", "x", s, api.OK, "x="+s)
		wantLay(t, made(t, "write by left", "write x old", "write y other"), "", "by", "x", s, api.OK, "x="+s+" y=other")
		wantLay(t, made(t, "mkdir d"), "d", "d/by", "d/x", s, api.OK, "d/ d/x="+s)
		wantLay(t, made(t, "mkdir d", "write d/x old", "write x top"), "d", "d/by", "d/x", s, api.OK, "d/ d/x="+s+" x=top")
		wantLay(t, made(t, "mkdir d", "mkdir d/e", "write d/e/by left"), "d/e", "d/e/by", "d/e/x", s, api.OK, "d/ d/e/ d/e/x="+s)
	}
	wantLay(t, made(t, "write x same"), "", "by", "x", "same", api.OK, "x=same")
	f := empty(t)
	for _, s := range []string{"one", "", "three"} {
		wantErr(t, "Lay", keep.Lay(f, "", "by", "x", s), api.OK)
		wantTold(t, "Lay again", fallen(f), "x="+s)
	}
}

// Promise 14.1, Lay: what else was done in the folder is sure, too; what was done elsewhere is not.
func TestLayBesideOthers(t *testing.T) {
	f := made(t, "mkdir d", "write d/a left")
	play(t, f, "remove d/a", "mkdir d/b", "write c x", "sync c")
	wantSteps(t, "Lay", f, lays("d", "d/by", "d/x", "new"), laySteps("d", "d/by", "d/x", "new")...)
	wantErr(t, "Lay", keep.Lay(f, "d", "d/by", "d/x", "new"), api.OK)
	wantTold(t, "Lay", f, "c=x d/ d/b/ d/x=new")
	wantTold(t, "Lay, and a fall", fallen(f), "d/ d/b/ d/x=new")
}

// Promise 14.1, Lay: vfs's error of the writing; nothing is done.
func TestLayNoWrite(t *testing.T) {
	for _, by := range []string{"", "By", "a b", "/by", "by/", "d//by", ".", "..", "b\x00", "ä", strings.Repeat("b", 201)} {
		f := made(t, "write x old")
		wantErr(t, "Lay by "+by, keep.Lay(f, "", by, "x", "new"), api.ErrPath)
		wantSame(t, "Lay by "+by, f, made(t, "write x old"))
		wantErr(t, "Lay without power by "+by, keep.Lay(dead(f), "", by, "x", "new"), api.ErrStill)
	}
	wantLay(t, made(t, "write x old"), "d", "d/by", "d/x", "new", api.ErrGone, "x=old")
	wantLay(t, made(t, "write x old"), "", "x/by", "x", "new", api.ErrGone, "x=old")
	wantLay(t, made(t, "mkdir by", "write x old"), "", "by", "x", "new", api.ErrDir, "by/ x=old")
}

// Promise 14.1, Lay: no room for the bytes beside those that stand there; what was laid ahead stays.
func TestLayFull(t *testing.T) {
	f := made(t, "write x old")
	for room := range 4 {
		f.Room(f.Used() + room)
		if room < 3 {
			wantLay(t, f, "", "by", "x", "new", api.ErrFull, "x=old")
		} else {
			wantLay(t, f, "", "by", "x", "new", api.OK, "x=new")
		}
	}
	f.Room(f.Used())
	wantLay(t, f, "", "by", "x", "", api.OK, "x=")
	f = made(t, "write by left", "write x old")
	f.Room(f.Used())
	wantLay(t, f, "", "by", "x", "newer", api.ErrFull, "by=left x=old")
	wantLay(t, f, "", "by", "x", "newe", api.OK, "x=newe")
	zero := &vfs.FS{}
	wantErr(t, "Lay", keep.Lay(zero, "", "by", "x", "s"), api.ErrFull)
	wantErr(t, "Lay", keep.Lay(zero, "", "by", "x", ""), api.OK)
	wantTold(t, "Lay", zero, "x=")
}

// Promise 14.1, Lay: vfs's error of the renaming; what stood at the path stays.
func TestLayNoRename(t *testing.T) {
	for _, path := range []string{"", "X", "x/", "/x", "..", "x\n", "d//x", strings.Repeat("x", 201)} {
		f := made(t, "write x old")
		wantErr(t, "Lay at "+path, keep.Lay(f, "", "by", path, "new"), api.ErrPath)
		wantTold(t, "Lay at "+path, f, "by=new x=old")
	}
	wantLay(t, made(t, "write x old"), "", "by", "d/x", "new", api.ErrGone, "by=new x=old")
	wantLay(t, made(t, "write x old"), "", "by", "x/x", "new", api.ErrGone, "by=new x=old")
	wantLay(t, made(t, "mkdir x"), "", "by", "x", "new", api.ErrDir, "by=new x/")
	wantLay(t, made(t, "mkdir x", "write x/y z"), "", "by", "x", "new", api.ErrDir, "by=new x/ x/y=z")
	wantLay(t, made(t, "write x old"), "", "x", "x", "new", api.ErrAsk, "x=new")
	wantLay(t, empty(t), "", "x", "x", "new", api.ErrAsk, "x=new")
}

// Promise 14.1, Lay: vfs's error of the folder, which comes last; the path is not sure then.
func TestLayNoSyncDir(t *testing.T) {
	wantLay(t, made(t, "write x old"), "d", "by", "x", "new", api.ErrGone, "x=new")
	wantLay(t, made(t, "write x old", "write d a"), "d", "by", "x", "new", api.ErrGone, "d=a x=new")
	for _, dir := range []string{"D", "/", "..", "d/", strings.Repeat("d", 201)} {
		f := made(t, "write x old")
		wantErr(t, "Lay in "+dir, keep.Lay(f, dir, "by", "x", "new"), api.ErrPath)
		wantTold(t, "Lay in "+dir, f, "x=new")
		wantTold(t, "Lay in "+dir+", and a fall", fallen(f), "x=old")
	}
	// The folder is another one than that of the path: nobody asks whether it is.
	f := made(t, "mkdir d", "write x old")
	wantLay(t, f.Clone(), "d", "d/by", "d/x", "new", api.OK, "d/ d/x=new x=old")
	wantErr(t, "Lay", keep.Lay(f, "d", "by", "x", "new"), api.OK)
	wantTold(t, "Lay", f, "d/ x=new")
	wantTold(t, "Lay, and a fall", fallen(f), "d/ x=old")
}

// Promise 14.1, Lay: without power nothing is done, and that is told ahead of all else.
func TestLayStill(t *testing.T) {
	f := dead(made(t, "mkdir d", "write x old"))
	for _, path := range []string{"x", "d", "", "X", "e/x", "by"} {
		wantErr(t, "Lay", keep.Lay(f, path, "by", path, "new"), api.ErrStill)
		wantErr(t, "Lay", keep.Lay(f, "", path, "x", "new"), api.ErrStill)
		wantErr(t, "Lay", keep.Lay(nil, path, path, path, "new"), api.ErrStill)
	}
	f.Up()
	wantTold(t, "Lay without power", f, "d/ x=old")
}

// Promise 14.1, Clear: a file that is there goes, for sure, at the top and in a folder; so does a folder in which nothing stands.
func TestClear(t *testing.T) {
	wantClear(t, made(t, "write x old", "write y other"), "", "x", api.OK, "y=other")
	wantClear(t, made(t, "write x "), "", "x", api.OK, "")
	wantClear(t, made(t, "mkdir d", "write d/x old", "write x top"), "d", "d/x", api.OK, "d/ x=top")
	wantClear(t, made(t, "mkdir d", "mkdir d/e", "write d/e/x old"), "d/e", "d/e/x", api.OK, "d/ d/e/")
	wantClear(t, made(t, "mkdir x"), "", "x", api.OK, "")
	// What else was done in the folder is sure, too.
	f := made(t, "write x old", "write y other")
	play(t, f, "remove y", "mkdir d")
	wantClear(t, f, "", "x", api.OK, "d/")
	// It may be there without being sure.
	f = made(t, "write y other")
	play(t, f, "write x new")
	wantClear(t, f, "", "x", api.OK, "y=other")
}

// wantClear wants Clear to do both its steps up to the first error, which is this one, and this to stand there then.
func wantClear(t *testing.T, f *vfs.FS, dir, path string, want api.Errno, stands string) {
	t.Helper()
	what := fmt.Sprintf("Clear(%q, %q)", dir, path)
	wantSteps(t, what, f, clears(dir, path), "remove "+path, strings.TrimSpace("syncdir "+dir))
	f = f.Clone()
	wantErr(t, what, keep.Clear(f, dir, path), want)
	wantTold(t, what, f, stands)
	if want == api.OK {
		wantTold(t, what+", and a fall", fallen(f), stands)
	}
}

// Promise 14.1, Clear: where it is not there nothing is done, and nothing is wrong.
func TestClearGone(t *testing.T) {
	f := made(t, "mkdir d", "write y other")
	play(t, f, "write z new", "remove y")
	for _, dir := range []string{"", "d", "e", "D", "y"} {
		for _, path := range []string{"x", "y", "d/x", "e/x", "z/x", "y/x", strings.Repeat("x", 200)} {
			what := fmt.Sprintf("Clear(%q, %q)", dir, path)
			wantSteps(t, what, f, clears(dir, path))
			wantErr(t, what, keep.Clear(f.Clone(), dir, path), api.OK)
		}
	}
	zero := &vfs.FS{}
	wantErr(t, "Clear", keep.Clear(zero, "", "x"), api.OK)
	wantTold(t, "Clear", zero, "")
}

// Promise 14.1, Clear: vfs's errors.
func TestClearErrors(t *testing.T) {
	wantClear(t, made(t, "mkdir x", "write x/y z"), "", "x", api.ErrThere, "x/ x/y=z")
	wantClear(t, made(t, "write x old"), "d", "x", api.ErrGone, "")
	wantClear(t, made(t, "write x old", "write d a"), "d", "x", api.ErrGone, "d=a")
	wantClear(t, made(t, "write x old"), "x", "x", api.ErrGone, "")
	for _, bad := range []string{"X", "/", "..", "x/", "a//b", "ä", strings.Repeat("x", 201)} {
		f := made(t, "write x old")
		wantErr(t, "Clear of "+bad, keep.Clear(f, "", bad), api.ErrPath)
		wantErr(t, "Clear of "+bad, keep.Clear(f, bad, bad), api.ErrPath)
		wantErr(t, "Clear of the root", keep.Clear(f, "", ""), api.ErrPath)
		wantSame(t, "Clear of "+bad, f, made(t, "write x old"))
		wantErr(t, "Clear in "+bad, keep.Clear(f, bad, "x"), api.ErrPath)
		wantTold(t, "Clear in "+bad, f, "")
		wantTold(t, "Clear in "+bad+", and a fall", fallen(f), "x=old")
	}
	f := dead(made(t, "write x old"))
	for _, path := range []string{"x", "y", "X", ""} {
		wantErr(t, "Clear without power", keep.Clear(f, "", path), api.ErrStill)
		wantErr(t, "Clear without power", keep.Clear(f, "d", path), api.ErrStill)
		wantErr(t, "Clear of nil", keep.Clear(nil, "", path), api.ErrStill)
	}
	f.Up()
	wantTold(t, "Clear without power", f, "x=old")
}
