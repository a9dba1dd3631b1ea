package loose_test

import (
	"crypto/sha256"
	"fmt"
	"slices"
	"strings"
	"testing"

	"pollard/api"
	"pollard/loose"
	"pollard/lz"
	"pollard/vfs"
)

const (
	objects  = "objects"
	incoming = "objects/incoming"
)

// sumOf is the sum by the library.
func sumOf(s string) string {
	b := sha256.Sum256([]byte(s))
	return string(b[:])
}

// fileOf is where the object of these bytes stands, and folderOf in which folder.
func fileOf(raw string) string {
	digits := fmt.Sprintf("%x", sumOf(raw))
	return "objects/" + digits[:2] + "/" + digits[2:]
}

func folderOf(raw string) string { return fileOf(raw)[:len("objects/00")] }

// rawOf is the bytes of an object by the word of its kind, whatever that is.
func rawOf(word, body string) string { return fmt.Sprintf("%s %d\x00%s", word, len(body), body) }

func blob(body string) string { return rawOf("blob", body) }

// idOf is an id of one byte, again and again; hexOf is its digits.
func idOf(c byte) string { return strings.Repeat(string([]byte{c}), api.IDBytes) }

func hexOf(c byte) string { return fmt.Sprintf("%x", idOf(c)) }

// someRaws are objects of each kind.
func someRaws() []string {
	return []string{
		blob(""), blob("x"), blob("\x00"), blob(strings.Repeat("again and ", 50)),
		rawOf("tree", ""), rawOf("tree", "file a\x00"+idOf(1)+"tree b\x00"+idOf(2)),
		rawOf("commit", "tree "+hexOf(3)+"\nauthor Ann\ntime 7\n\nwhy\n"),
		rawOf("commit", "tree "+hexOf(3)+"\nparent "+hexOf(4)+"\nparent "+hexOf(5)+"\nauthor Ann\ntime 0\n\n"),
		rawOf("tag", "object "+hexOf(6)+"\nkind commit\nname v-1\n\nwhy\n"),
	}
}

// noIDs are texts that are no ids.
func noIDs() []string {
	return []string{"", "i", idOf('i')[:31], idOf('i') + "i", idOf('i') + idOf('i'), hexOf('i'), "incoming", "objects", fileOf("x"), "..", "/", strings.Repeat("i", 1<<16)}
}

// neighbours are n blobs whose ids begin with the same two digits.
func neighbours(n int) []string {
	var l []string
	for i := 0; len(l) < n; i++ {
		raw := blob(fmt.Sprint("neighbour ", i))
		if sumOf(raw)[0] == 'n' {
			l = append(l, raw)
		}
	}
	return l
}

// empty is one in which nothing is.
func empty(t *testing.T) *vfs.FS {
	t.Helper()
	f, e := vfs.New(1 << 24)
	if e != api.OK {
		t.Fatal(e)
	}
	return f
}

// ready is one that was opened, and in which these objects were put.
func ready(t *testing.T, raws ...string) *vfs.FS {
	t.Helper()
	f := empty(t)
	wantErr(t, "Open", loose.Open(f), api.OK)
	wantPut(t, f, raws...)
	return f
}

// dead is the same without power.
func dead(f *vfs.FS) *vfs.FS {
	f = f.Clone()
	f.Crash(1<<62-1, 0)
	return f
}

// fallen is the same behind a fall that keeps nothing of what is not sure.
func fallen(f *vfs.FS) *vfs.FS {
	f = f.Clone()
	f.Crash(0, 0)
	f.Up()
	return f
}

// pressed is a text's pressed bytes.
func pressed(t *testing.T, s string) string {
	t.Helper()
	p, e := lz.Press(s)
	if e != api.OK {
		t.Fatal(e)
	}
	return p
}

// line plays one call, told as its words: mkdir d, write a TEXT, sync a, syncdir d (alone: the root), rename a b, remove a.
func line(f *vfs.FS, s string) api.Errno {
	w := append(strings.SplitN(s, " ", 3), "", "")
	switch w[0] {
	case "mkdir":
		return f.Mkdir(w[1])
	case "write":
		return f.Write(w[1], w[2])
	case "sync":
		return f.Sync(w[1])
	case "syncdir":
		return f.SyncDir(w[1])
	case "rename":
		return f.Rename(w[1], w[2])
	case "remove":
		return f.Remove(w[1])
	}
	panic(s)
}

// play plays calls that must all be done.
func play(t *testing.T, f *vfs.FS, lines ...string) {
	t.Helper()
	for _, s := range lines {
		if e := line(f, s); e != api.OK {
			t.Fatalf("%.80q: %d", s, e)
		}
	}
}

// told is all that stands there, folder by folder: names with a / behind them, or with = and the bytes.
func told(t *testing.T, f *vfs.FS, folder string) string {
	t.Helper()
	l, e := f.List(strings.TrimSuffix(folder, "/"))
	if e != api.OK {
		t.Fatalf("List(%s): %d", folder, e)
	}
	var out []string
	for _, name := range l {
		if strings.HasSuffix(name, "/") {
			out = append(out, folder+name, told(t, f, folder+name))
			continue
		}
		s, e := f.Read(folder + name)
		if e != api.OK {
			t.Fatalf("Read(%s): %d", folder+name, e)
		}
		out = append(out, fmt.Sprintf("%s=%q", folder+name, s))
	}
	return strings.Join(out, " ")
}

// wantSame wants the same to stand there, behind as many steps, and behind each fall, too.
func wantSame(t *testing.T, what string, got, want *vfs.FS) {
	t.Helper()
	if got.Steps() != want.Steps() || got.Loose() != want.Loose() || got.Used() != want.Used() {
		t.Errorf("%s: %d steps, %d loose, %d used; wanted %d, %d, %d", what, got.Steps(), got.Loose(), got.Used(), want.Steps(), want.Loose(), want.Used())
		return
	}
	if got.Dead() != want.Dead() {
		t.Errorf("%s: dead %v, wanted %v", what, got.Dead(), want.Dead())
		return
	}
	for keep := range uint64(1) << min(want.Loose(), 8) {
		g, w := got.Clone(), want.Clone()
		g.Crash(keep, 3)
		w.Crash(keep, 3)
		g.Up()
		w.Up()
		if a, b := told(t, g, ""), told(t, w, ""); a != b {
			t.Errorf("%s: behind a fall that keeps %b there stands %s, wanted %s", what, keep, a, b)
		}
	}
	if !got.Dead() {
		if a, b := told(t, got, ""), told(t, want, ""); a != b {
			t.Errorf("%s: there stands %s, wanted %s", what, a, b)
		}
	}
}

// wantSteps wants what a call did to be what these calls do, at each place where the power may fail, too.
func wantSteps(t *testing.T, what string, f *vfs.FS, call func(*vfs.FS) api.Errno, lines ...string) {
	t.Helper()
	for at := range len(lines) + 2 {
		got, want := f.Clone(), f.Clone()
		fall := []api.Fall{{At: f.Steps() + at, Keep: 1<<62 - 1}}
		got.Plan(fall)
		want.Plan(fall)
		e := call(got)
		wantE := api.OK
		for _, s := range lines {
			if wantE == api.OK {
				wantE = line(want, s)
			}
		}
		wantErr(t, fmt.Sprintf("%s, with a fall at %d", what, at), e, wantE)
		wantSame(t, fmt.Sprintf("%s, with a fall at %d", what, at), got, want)
	}
}

func wantErr(t *testing.T, what string, got, want api.Errno) {
	t.Helper()
	if got != want {
		t.Errorf("%s: %d, wanted %d", what, got, want)
	}
}

// wantPut wants objects to be kept under their ids.
func wantPut(t *testing.T, f *vfs.FS, raws ...string) {
	t.Helper()
	for _, raw := range raws {
		if id, e := loose.Put(f, raw); id != sumOf(raw) || e != api.OK {
			t.Fatalf("Put(%.80q): %x, %d", raw, id, e)
		}
	}
}

// wantNoPut wants this error, no id beside it, and nothing to have been done.
func wantNoPut(t *testing.T, f *vfs.FS, raw string, want api.Errno) {
	t.Helper()
	ahead := f.Clone()
	if id, e := loose.Put(f, raw); id != "" || e != want {
		t.Errorf("Put(%.80q): %x, %d; wanted %d", raw, id, e, want)
	}
	if f != nil {
		wantSame(t, fmt.Sprintf("behind Put(%.80q)", raw), f, ahead)
	}
}

// wantGet wants objects to be there, byte for byte.
func wantGet(t *testing.T, f *vfs.FS, raws ...string) {
	t.Helper()
	for _, raw := range raws {
		if s, e := loose.Get(f, sumOf(raw)); s != raw || e != api.OK {
			t.Errorf("Get of %.80q: %.80q, %d", raw, s, e)
		}
		if !loose.Has(f, sumOf(raw)) {
			t.Errorf("Has of %.80q: false", raw)
		}
	}
}

// wantNoGet wants this error, and no bytes beside it.
func wantNoGet(t *testing.T, f *vfs.FS, id string, want api.Errno) {
	t.Helper()
	if s, e := loose.Get(f, id); s != "" || e != want {
		t.Errorf("Get(%.80q): %.80q, %d; wanted %d", id, s, e, want)
	}
}

// wantHas wants Has to answer this.
func wantHas(t *testing.T, f *vfs.FS, id string, want bool) {
	t.Helper()
	if loose.Has(f, id) != want {
		t.Errorf("Has(%.80q): %v", id, !want)
	}
}

// wantList wants the ids of these objects, rising, and no others.
func wantList(t *testing.T, f *vfs.FS, raws ...string) {
	t.Helper()
	var want []string
	for _, raw := range raws {
		want = append(want, sumOf(raw))
	}
	slices.Sort(want)
	if l := loose.List(f); !slices.Equal(l, want) {
		t.Errorf("List: %x, wanted %x", l, want)
	}
}
