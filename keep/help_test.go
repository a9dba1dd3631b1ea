package keep_test

import (
	"encoding/binary"
	"encoding/hex"
	"fmt"
	"slices"
	"strings"
	"testing"

	"pollard/api"
	"pollard/keep"
	"pollard/vfs"
)

const (
	refsFile = "refs"
	newFile  = "refs.new"
)

// idOf is an id of one byte, again and again.
func idOf(c byte) string { return strings.Repeat(string([]byte{c}), api.IDBytes) }

// named is refs with these names, whose ids are told by the first one's letter on.
func named(head string, names ...string) api.Refs {
	r := api.Refs{Head: head}
	for i, s := range names {
		r.List = append(r.List, api.Ref{Name: s, ID: idOf(byte('a' + i))})
	}
	return r
}

// firstRefs are those that are there at first.
func firstRefs() api.Refs { return api.Refs{Head: "heads/main"} }

// mostRefs are as many as may be, with names as long as may be.
func mostRefs() api.Refs {
	r := api.Refs{Head: "heads/" + strings.Repeat("h", 64)}
	for i := range 256 {
		r.List = append(r.List, api.Ref{Name: fmt.Sprintf("tags/%064d", i), ID: idOf(byte(i))})
	}
	return r
}

// someRefs are refs of several lengths, from the shortest on to the longest.
func someRefs() []api.Refs {
	return []api.Refs{
		{Head: "heads/b"},
		{Head: "heads/b", List: []api.Ref{}},
		firstRefs(),
		named("heads/main", "tags/v"),
		named("heads/a", "heads/a", "heads/main", "tags/v1"),
		named("heads/none", "heads/a", "tags/a", "tags/b", "tags/c", "tags/d", "tags/e"),
		{Head: "heads/main", List: []api.Ref{{Name: "heads/main", ID: idOf(0)}, {Name: "tags/v", ID: idOf('\n')}}},
		mostRefs(),
	}
}

// noRefs are refs that may not be, by why.
func noRefs() map[api.Errno]api.Refs {
	much := mostRefs()
	much.List = append(much.List, api.Ref{Name: "tags/x", ID: idOf('x')})
	short := named("heads/main", "heads/a", "tags/a")
	short.List[1].ID = "a"
	return map[api.Errno]api.Refs{
		api.ErrMuch:  much,
		api.ErrLabel: named("tags/main", "heads/a"),
		api.ErrBad:   short,
		api.ErrOrder: named("heads/main", "tags/a", "heads/a"),
	}
}

// bytesOf is the bytes of refs by the chapter's words, whether or not they may be.
func bytesOf(r api.Refs) string {
	s := "head " + r.Head + "\n"
	for _, x := range r.List {
		s += hex.EncodeToString([]byte(x.ID)) + " " + x.Name + "\n"
	}
	return s
}

// framed is the frame of a text by the chapter's words: a number of at most three bytes, the text, the check bit by bit.
func framed(s string) string {
	n := len(s)
	told := string([]byte{byte(n & 127)})
	for n >= 128 {
		n = n>>7 - 1
		told = string([]byte{byte(n&127) | 128}) + told
	}
	told += s
	c := ^uint32(0)
	for i := range len(told) {
		for bit := 7; bit >= 0; bit-- {
			top := c>>31 ^ uint32(told[i]>>bit&1)
			c = c<<1 ^ 0x04c11db7*top
		}
	}
	return told + string(binary.BigEndian.AppendUint32(nil, ^c))
}

// fileOf is the bytes of the file in which refs are kept.
func fileOf(r api.Refs) string { return framed(bytesOf(r)) }

// empty is one in which nothing is.
func empty(t *testing.T) *vfs.FS {
	t.Helper()
	f, e := vfs.New(1 << 24)
	if e != api.OK {
		t.Fatal(e)
	}
	return f
}

// holding is one in which these refs were saved.
func holding(t *testing.T, r api.Refs) *vfs.FS {
	t.Helper()
	f := empty(t)
	wantErr(t, "Save", keep.Save(f, r), api.OK)
	return f
}

// dead is the same without power.
func dead(f *vfs.FS) *vfs.FS {
	f = f.Clone()
	f.Crash(1<<62-1, 0)
	return f
}

// fallen is the same behind a fall that keeps nothing of what is not sure.
func fallen(f *vfs.FS) *vfs.FS {
	f = f.Clone()
	f.Crash(0, 0)
	f.Up()
	return f
}

// line plays one call, told as its words: mkdir d, write a TEXT, sync a, syncdir d (alone: the root), rename a b, remove a.
func line(f *vfs.FS, s string) api.Errno {
	w := append(strings.SplitN(s, " ", 3), "", "")
	switch w[0] {
	case "mkdir":
		return f.Mkdir(w[1])
	case "write":
		return f.Write(w[1], w[2])
	case "sync":
		return f.Sync(w[1])
	case "syncdir":
		return f.SyncDir(w[1])
	case "rename":
		return f.Rename(w[1], w[2])
	case "remove":
		return f.Remove(w[1])
	}
	panic(s)
}

// play plays calls that must all be done.
func play(t *testing.T, f *vfs.FS, lines ...string) {
	t.Helper()
	for _, s := range lines {
		if e := line(f, s); e != api.OK {
			t.Fatalf("%.80q: %d", s, e)
		}
	}
}

// made is a new one in which these calls were done, and made sure.
func made(t *testing.T, lines ...string) *vfs.FS {
	t.Helper()
	f := empty(t)
	play(t, f, lines...)
	f.Crash(1<<62-1, 0)
	f.Up()
	return f
}

// told is all that stands there, folder by folder: names with a / behind them, or with = and the bytes.
func told(t *testing.T, f *vfs.FS, folder string) string {
	t.Helper()
	l, e := f.List(strings.TrimSuffix(folder, "/"))
	if e != api.OK {
		t.Fatalf("List(%s): %d", folder, e)
	}
	var out []string
	for _, name := range l {
		if strings.HasSuffix(name, "/") {
			out = append(out, folder+name)
			if within := told(t, f, folder+name); within != "" {
				out = append(out, within)
			}
			continue
		}
		s, e := f.Read(folder + name)
		if e != api.OK {
			t.Fatalf("Read(%s): %d", folder+name, e)
		}
		out = append(out, folder+name+"="+s)
	}
	return strings.Join(out, " ")
}

func wantTold(t *testing.T, what string, f *vfs.FS, want string) {
	t.Helper()
	if got := told(t, f, ""); got != want {
		t.Errorf("%s: there stands %.300q, wanted %.300q", what, got, want)
	}
}

// wantSame wants the same to stand there, behind as many steps, and behind each fall, too.
func wantSame(t *testing.T, what string, got, want *vfs.FS) {
	t.Helper()
	if got.Steps() != want.Steps() || got.Loose() != want.Loose() || got.Used() != want.Used() || got.Dead() != want.Dead() {
		t.Errorf("%s: %d steps, %d loose, %d used, dead %v; wanted %d, %d, %d, %v", what,
			got.Steps(), got.Loose(), got.Used(), got.Dead(), want.Steps(), want.Loose(), want.Used(), want.Dead())
		return
	}
	if !got.Dead() {
		wantTold(t, what, got, told(t, want, ""))
	}
	for bits := range uint64(1) << min(want.Loose(), 8) {
		g, w := got.Clone(), want.Clone()
		g.Crash(bits, 3)
		w.Crash(bits, 3)
		g.Up()
		w.Up()
		wantTold(t, fmt.Sprintf("%s, and a fall that keeps %b", what, bits), g, told(t, w, ""))
	}
}

// wantSteps wants what a call did to be what these calls do, up to the first error, at each place where the power may fail, too.
func wantSteps(t *testing.T, what string, f *vfs.FS, call func(*vfs.FS) api.Errno, lines ...string) {
	t.Helper()
	for at := range len(lines) + 2 {
		got, want := f.Clone(), f.Clone()
		fall := []api.Fall{{At: f.Steps() + at, Keep: 1<<62 - 1}}
		got.Plan(fall)
		want.Plan(fall)
		e := call(got)
		wantE := api.OK
		for _, s := range lines {
			if wantE == api.OK {
				wantE = line(want, s)
			}
		}
		fell := fmt.Sprintf("%s, with a fall at %d", what, at)
		wantErr(t, fell, e, wantE)
		wantSame(t, fell, got, want)
	}
}

func wantErr(t *testing.T, what string, got, want api.Errno) {
	t.Helper()
	if got != want {
		t.Errorf("%s: %d, wanted %d", what, got, want)
	}
}

// show is refs, cut short.
func show(r api.Refs) string {
	var b strings.Builder
	for _, x := range r.List[:min(len(r.List), 8)] {
		fmt.Fprintf(&b, "{%.40q %.40q}", x.Name, x.ID)
	}
	return fmt.Sprintf("%.40q, %d: %s", r.Head, len(r.List), b.String())
}

func same(a, b api.Refs) bool { return a.Head == b.Head && slices.Equal(a.List, b.List) }

// wantOpen wants these refs to be there.
func wantOpen(t *testing.T, what string, f *vfs.FS, want api.Refs) {
	t.Helper()
	if r, e := keep.Open(f); e != api.OK || !same(r, want) {
		t.Errorf("%s: Open: %s, %d; wanted %s", what, show(r), e, show(want))
	}
}

// wantNoOpen wants this error, and no refs beside it.
func wantNoOpen(t *testing.T, what string, f *vfs.FS, want api.Errno) {
	t.Helper()
	if r, e := keep.Open(f); e != want || !same(r, api.Refs{}) {
		t.Errorf("%s: Open: %s, %d; wanted %d", what, show(r), e, want)
	}
}

// lays is Lay as a call that is to be held against others; so are clears, saves and opens.
func lays(dir, by, path, s string) func(*vfs.FS) api.Errno {
	return func(f *vfs.FS) api.Errno { return keep.Lay(f, dir, by, path, s) }
}

func clears(dir, path string) func(*vfs.FS) api.Errno {
	return func(f *vfs.FS) api.Errno { return keep.Clear(f, dir, path) }
}

func saves(r api.Refs) func(*vfs.FS) api.Errno {
	return func(f *vfs.FS) api.Errno { return keep.Save(f, r) }
}

func opens(f *vfs.FS) api.Errno {
	_, e := keep.Open(f)
	return e
}
