package vfs_test

import (
	"math"
	"slices"
	"strings"
	"testing"

	"pollard/api"
	"pollard/vfs"
)

// Promise 3.1: which texts are paths.
func TestPath(t *testing.T) {
	long := strings.Repeat("a", api.MostPath)
	deep := strings.Repeat("a/", api.MostPath/2-1) + "ab"
	for _, p := range []string{
		"a", "z", "0", "9", "-", "_", "...", "a.", ".a", "..a", "a..", ".-", "a/b", "a/.b/c..", "-/_", "refs.new", "objects/ab/cd", long, deep,
	} {
		if !vfs.Path(p) {
			t.Errorf("%q is no path", p)
		}
	}
	for _, p := range []string{
		"", "/", "//", "/a", "a/", "a//b", ".", "..", "./a", "../a", "a/.", "a/..", "a/./b", "a/../b", "A", "Z", "aB", "a b", " ", "a\x00", "a\n", "é", "a\xffb", "\ufffd", "а", "a\\b", "`", "{", ":", "@", ",", "~", "+", long + "a", deep + "a",
	} {
		if vfs.Path(p) {
			t.Errorf("%q is a path", p)
		}
	}
	for c := range 256 {
		want := strings.IndexByte("abcdefghijklmnopqrstuvwxyz0123456789.-_/", byte(c)) >= 0
		if p := "a" + string([]byte{byte(c)}) + "a"; vfs.Path(p) != want {
			t.Errorf("%q: %v", p, !want)
		}
	}
}

// Promise 3.1: paths as long as they may be, and one more, in all calls; both paths of Rename.
func TestLongPaths(t *testing.T) {
	long := strings.Repeat("a", api.MostPath)
	other := strings.Repeat("b", api.MostPath)
	f := made(t, "write "+long+" x", "sync "+long, "rename "+long+" "+other, "remove "+other, "mkdir "+long, "syncdir "+long)
	if _, e := f.List(long); e != api.OK {
		t.Error(e)
	}
	for _, p := range []string{long + "a", "A", "a//b", "a/..", "\xff"} {
		for _, s := range []string{"mkdir ", "write ", "sync ", "syncdir ", "remove ", "rename a ", "rename gone "} {
			wantErr(t, s+p, line(f, s+p), api.ErrPath)
		}
		wantErr(t, "rename from", f.Rename(p, "a"), api.ErrPath)
		_, e := f.Read(p)
		wantErr(t, "read", e, api.ErrPath)
		l, e := f.List(p)
		wantErr(t, "list", e, api.ErrPath)
		if l != nil {
			t.Error(l)
		}
	}
}

// Promise 3.1: room from 0 on.
func TestNew(t *testing.T) {
	for _, room := range []int{-1, math.MinInt} {
		if f, e := vfs.New(room); f != nil || e != api.ErrAsk {
			t.Error(room, f, e)
		}
	}
	for _, room := range []int{0, 1, math.MaxInt} {
		f, e := vfs.New(room)
		if f == nil || e != api.OK {
			t.Fatal(room, f, e)
		}
		if f.Dead() || f.Used() != 0 || f.Steps() != 0 || f.Loose() != 0 {
			t.Error(room, f.Dead(), f.Used(), f.Steps(), f.Loose())
		}
		wantTold(t, f, "")
	}
}

// Promise 3.1: each error, and which one comes first; none of them is a step or changes anything.
func TestErrors(t *testing.T) {
	f := made(t, "mkdir d", "mkdir d/e", "write a x", "write d/b y")
	all, steps, loose := told(t, f, ""), f.Steps(), f.Loose()
	for _, c := range []struct {
		call string
		want api.Errno
	}{
		{"mkdir gone/a", api.ErrGone}, {"mkdir a/b", api.ErrGone}, {"mkdir d/gone/b", api.ErrGone},
		{"mkdir d", api.ErrThere}, {"mkdir a", api.ErrThere}, {"mkdir d/b", api.ErrThere}, {"mkdir d/e", api.ErrThere},
		{"write gone/a x", api.ErrGone}, {"write a/b x", api.ErrGone}, {"write d x", api.ErrDir}, {"write d/e x", api.ErrDir},
		{"sync gone", api.ErrGone}, {"sync gone/a", api.ErrGone}, {"sync a/b", api.ErrGone}, {"sync d", api.ErrDir},
		{"syncdir gone", api.ErrGone}, {"syncdir a", api.ErrGone}, {"syncdir d/b", api.ErrGone},
		{"rename gone a", api.ErrGone}, {"rename gone gone", api.ErrGone}, {"rename gone d", api.ErrGone}, {"rename b gone/a", api.ErrGone},
		{"rename d gone/a", api.ErrDir}, {"rename d d", api.ErrDir}, {"rename d c", api.ErrDir}, {"rename d a", api.ErrDir},
		{"rename a a", api.ErrAsk}, {"rename d/b d/b", api.ErrAsk},
		{"rename a gone/a", api.ErrGone}, {"rename a d/b/c", api.ErrGone}, {"rename a a/b", api.ErrGone},
		{"rename a d", api.ErrDir}, {"rename d/b d", api.ErrDir}, {"rename a d/e", api.ErrDir},
		{"remove gone", api.ErrGone}, {"remove gone/a", api.ErrGone}, {"remove a/b", api.ErrGone}, {"remove d", api.ErrThere},
		{"mkdir ", api.ErrPath}, {"write  x", api.ErrPath}, {"sync ", api.ErrPath}, {"remove ", api.ErrPath}, {"rename  a", api.ErrPath}, {"rename a ", api.ErrPath},
		{"mkdir D", api.ErrPath}, {"write gone/D x", api.ErrPath}, {"rename gone D", api.ErrPath}, {"rename d D", api.ErrPath}, {"rename D D", api.ErrPath},
	} {
		wantErr(t, c.call, line(f, c.call), c.want)
	}
	for p, want := range map[string]api.Errno{"gone": api.ErrGone, "gone/a": api.ErrGone, "a/b": api.ErrGone, "d": api.ErrDir, "": api.ErrPath, "D": api.ErrPath} {
		s, e := f.Read(p)
		wantErr(t, "Read "+p, e, want)
		if s != "" {
			t.Errorf("Read(%s): %q", p, s)
		}
	}
	for p, want := range map[string]api.Errno{"gone": api.ErrGone, "a": api.ErrGone, "d/b": api.ErrGone, "d/": api.ErrPath, "D": api.ErrPath} {
		l, e := f.List(p)
		wantErr(t, "List "+p, e, want)
		if len(l) != 0 {
			t.Errorf("List(%s): %q", p, l)
		}
	}
	wantTold(t, f, all)
	wantInt(t, "steps", f.Steps(), steps)
	wantInt(t, "loose", f.Loose(), loose)
}

// Promise 3.1: without power every call says so, ahead of all else.
func TestNoPower(t *testing.T) {
	f := made(t, "mkdir d", "write a x", "sync a", "syncdir")
	steps := f.Steps()
	f.Crash(0, 0)
	for _, s := range []string{
		"mkdir b", "mkdir d", "mkdir A", "mkdir ", "write a y", "write A x", "write d x", "sync a", "sync A", "sync gone", "syncdir", "syncdir d", "syncdir A", "rename a b", "rename a a", "rename A a", "remove a", "remove A", "remove gone",
	} {
		wantErr(t, s, line(f, s), api.ErrStill)
	}
	for _, p := range []string{"", "a", "d", "A", "gone"} {
		if s, e := f.Read(p); s != "" || e != api.ErrStill {
			t.Errorf("Read(%s): %q, %d", p, s, e)
		}
		if l, e := f.List(p); len(l) != 0 || e != api.ErrStill {
			t.Errorf("List(%s): %q, %d", p, l, e)
		}
	}
	wantInt(t, "steps", f.Steps(), steps)
	wantInt(t, "used", f.Used(), 1)
	f.Up()
	wantTold(t, f, "a=x d/")
}

// Promise 3.1: the names in a folder: not those deeper down, sorted as names, whatever stands behind them.
func TestList(t *testing.T) {
	f := made(t, "mkdir d", "mkdir d/e", "mkdir b", "write d-a x", "write d.b x", "write d0 x", "write d_ x", "write a x", "write d/z x", "write d/e/y x", "mkdir d/0")
	for p, want := range map[string][]string{
		"": {"a", "b/", "d/", "d-a", "d.b", "d0", "d_"}, "d": {"0/", "e/", "z"}, "d/e": {"y"}, "d/0": nil, "b": nil,
	} {
		l, e := f.List(p)
		if e != api.OK || !slices.Equal(l, want) {
			t.Errorf("List(%s): %q, %d, wanted %q", p, l, e, want)
		}
	}
	l, _ := f.List("d")
	l[0] = "mine"
	if l, _ := f.List("d"); l[0] != "0/" {
		t.Error(l)
	}
}

// Promise 3.1: files have the bytes that were written last; a new path takes the place of a file; a folder goes when nothing stands in it.
func TestCalls(t *testing.T) {
	f := made(t, "write a x", "write b yy", "mkdir d", "write d/c \x00\xff/", "write e")
	wantTold(t, f, "a=x b=yy d/ d/c=\x00\xff/ e=")
	play(t, f, "write a longer", "write b s")
	wantTold(t, f, "a=longer b=s d/ d/c=\x00\xff/ e=")
	play(t, f, "rename a b", "rename b d/c", "rename e e.new")
	wantTold(t, f, "d/ d/c=longer e.new=")
	wantErr(t, "remove d", f.Remove("d"), api.ErrThere)
	play(t, f, "rename d/c c", "remove d", "write d file")
	wantTold(t, f, "c=longer d=file e.new=")
	play(t, f, "remove d", "mkdir d", "mkdir d/d")
	wantErr(t, "remove d", f.Remove("d"), api.ErrThere)
	play(t, f, "remove d/d", "remove d", "remove c", "remove e.new")
	wantTold(t, f, "")
	wantInt(t, "used", f.Used(), 0)
}

// Promise 3.1: a name that another one begins with is no folder of it.
func TestNamesAlike(t *testing.T) {
	f := made(t, "mkdir d", "write dd x", "mkdir dd.e", "write d-e x", "mkdir e", "mkdir e/d", "write e/d/d x")
	play(t, f, "remove d")
	wantTold(t, f, "d-e=x dd=x dd.e/ e/ e/d/ e/d/d=x")
}

// Promises 3.1, 3.2: room for just so many bytes, and for one less; a file that grows, stays, shrinks; new files without bytes.
func TestRoom(t *testing.T) {
	f, _ := vfs.New(5)
	play(t, f, "write a xxx", "write b yy")
	wantInt(t, "used", f.Used(), 5)
	steps := f.Steps()
	for _, s := range []string{"write c z", "write a xxxx", "write b yyy"} {
		wantErr(t, s, line(f, s), api.ErrFull)
	}
	wantErr(t, "its folder first", f.Write("gone/a", "far too much"), api.ErrGone)
	f.Mkdir("d")
	wantErr(t, "a folder first", f.Write("d", "far too much"), api.ErrDir)
	wantErr(t, "no path first", f.Write("D", "far too much"), api.ErrPath)
	wantInt(t, "steps", f.Steps(), steps+1)
	wantTold(t, f, "a=xxx b=yy d/")
	play(t, f, "write c", "write a zzz", "write b y", "write c z")
	wantErr(t, "full again", f.Write("c", "zz"), api.ErrFull)
	play(t, f, "rename a b")
	wantInt(t, "used", f.Used(), 4)
	play(t, f, "write c zz")
	wantErr(t, "full again", f.Write("e", "z"), api.ErrFull)
	play(t, f, "remove c", "write e zz")
	wantInt(t, "used", f.Used(), 5)
}

// Promises 3.1, 3.2: room that is less than what is there, none, and below 0 (then it stays as it was).
func TestLessRoom(t *testing.T) {
	f := made(t, "write a xxxx", "write b yyyy")
	f.Room(3)
	wantInt(t, "used", f.Used(), 8)
	play(t, f, "write a zzzz", "write a zzz", "write c")
	wantErr(t, "grows", f.Write("a", "zzzz"), api.ErrFull)
	wantErr(t, "comes", f.Write("d", "z"), api.ErrFull)
	f.Room(0)
	play(t, f, "write a zz", "write a", "mkdir d", "rename b d/b")
	wantErr(t, "grows", f.Write("a", "z"), api.ErrFull)
	f.Room(6)
	f.Room(-1)
	f.Room(math.MinInt)
	play(t, f, "write a zz")
	wantErr(t, "grows", f.Write("a", "zzz"), api.ErrFull)
	f.Room(math.MaxInt)
	play(t, f, "write a zzzzzz")
	wantInt(t, "used", f.Used(), 10)
	none, _ := vfs.New(0)
	play(t, none, "write a", "mkdir d", "syncdir")
	wantErr(t, "no room", none.Write("a", "x"), api.ErrFull)
}

// Promise 3.2: steps are those that nothing but the power hinders, also such as change nothing.
func TestSteps(t *testing.T) {
	f := made(t)
	for i, s := range []string{"mkdir d", "write a x", "write a x", "sync a", "sync a", "syncdir d", "syncdir", "rename a b", "remove b", "remove d"} {
		wantInt(t, "steps", f.Steps(), i)
		wantErr(t, s, line(f, s), api.OK)
	}
	wantInt(t, "steps", f.Steps(), 10)
	f.Read("a")
	f.List("")
	f.Room(3)
	f.Plan([]api.Fall{{At: 20}})
	f.Clone()
	f.Crash(0, 0)
	f.Up()
	wantInt(t, "steps", f.Steps(), 10)
}

// R1: a nil one.
func TestNil(t *testing.T) {
	var f *vfs.FS
	for _, s := range []string{"mkdir a", "mkdir A", "write a x", "sync a", "syncdir", "syncdir A", "rename a b", "rename a a", "remove a", "remove A"} {
		wantErr(t, s, line(f, s), api.ErrStill)
	}
	if s, e := f.Read("a"); s != "" || e != api.ErrStill {
		t.Error(s, e)
	}
	if l, e := f.List(""); len(l) != 0 || e != api.ErrStill {
		t.Error(l, e)
	}
	f.Room(1)
	f.Crash(1, 1)
	f.Plan([]api.Fall{{}})
	if !f.Dead() || f.Up() || f.Used() != 0 || f.Steps() != 0 || f.Loose() != 0 || f.Clone() != nil {
		t.Error("a nil one")
	}
}

// R1: one that New did not make is a root without room.
func TestNotNew(t *testing.T) {
	var f, g vfs.FS
	f.Crash(1, 1)
	if !f.Up() || f.Up() || f.Clone() == nil {
		t.Error("no power")
	}
	play(t, &f, "mkdir d", "write d/a", "rename d/a a", "syncdir", "sync a")
	wantErr(t, "no room", f.Write("a", "x"), api.ErrFull)
	wantTold(t, &f, "a= d/")
	play(t, &g, "syncdir")
	wantErr(t, "gone", g.Remove("a"), api.ErrGone)
}

// Promise 3.2: a clone is the same, and goes its own way.
func TestClone(t *testing.T) {
	f := made(t, "mkdir d", "write a x", "write d/b yy", "sync a", "syncdir", "write a z", "rename a d/c")
	f.Room(4)
	plan := []api.Fall{{At: 11}, {At: 9, Keep: 1 << 2}}
	f.Plan(plan)
	plan[1].At = 100
	c := f.Clone()
	for _, g := range []*vfs.FS{f, c} {
		wantTold(t, g, "d/ d/b=yy d/c=z")
		if g.Used() != 3 || g.Steps() != 7 || g.Loose() != 4 || g.Dead() {
			t.Error(g.Used(), g.Steps(), g.Loose(), g.Dead())
		}
		wantErr(t, "full", g.Write("e", "xx"), api.ErrFull)
	}
	play(t, f, "write d/c 1", "remove d/b")
	wantErr(t, "the fall", f.Mkdir("e"), api.ErrStill)
	f.Up()
	wantTold(t, f, "a=x d/")
	if c.Dead() || c.Steps() != 7 || c.Used() != 3 || c.Loose() != 4 {
		t.Error("the clone went along")
	}
	wantTold(t, c, "d/ d/b=yy d/c=z")
	play(t, c, "sync d/c", "syncdir d")
	wantErr(t, "the same fall", c.Mkdir("e"), api.ErrStill)
	d := c.Clone()
	if !d.Dead() || !d.Up() || !c.Dead() {
		t.Error("power")
	}
	wantTold(t, d, "d/ d/b= d/c=z")
	play(t, d, "mkdir e", "mkdir f")
	wantErr(t, "the other fall", d.Mkdir("g"), api.ErrStill)
}

// Promise 3.2: what is not sure of a clone is its own, too: files without names, what was done to names.
func TestCloneLoose(t *testing.T) {
	f := made(t, "write a old", "sync a", "syncdir", "write a new", "remove a", "write b x", "rename b c")
	c := f.Clone()
	f.Crash(0, 1)
	f.Up()
	wantTold(t, f, "a=nld")
	wantInt(t, "loose", c.Loose(), 5)
	wantFallen(t, c, 0, 2, "a=ned")
	wantFallen(t, c, 1<<3, 0, "a=new")
	wantFallen(t, c, 1<<2|1<<3|1<<4, 0, "a=new c=x")
	wantTold(t, c, "c=x")
}
