package vfs_test

import (
	"strings"
	"testing"

	"pollard/api"
	"pollard/vfs"
)

// line plays one call, told as its words: mkdir d, write a TEXT, sync a, syncdir d (alone: the root), rename a b, remove a.
func line(f *vfs.FS, s string) api.Errno {
	w := append(strings.Split(s, " "), "", "")
	switch w[0] {
	case "mkdir":
		return f.Mkdir(w[1])
	case "write":
		return f.Write(w[1], w[2])
	case "sync":
		return f.Sync(w[1])
	case "syncdir":
		return f.SyncDir(w[1])
	case "rename":
		return f.Rename(w[1], w[2])
	case "remove":
		return f.Remove(w[1])
	}
	panic(s)
}

// play plays calls that must all be done.
func play(t *testing.T, f *vfs.FS, lines ...string) {
	t.Helper()
	for _, s := range lines {
		if e := line(f, s); e != api.OK {
			t.Fatalf("%s: %d", s, e)
		}
	}
}

// made is a new one in which these calls were done.
func made(t *testing.T, lines ...string) *vfs.FS {
	t.Helper()
	f, e := vfs.New(1 << 20)
	if e != api.OK || f == nil {
		t.Fatal(e)
	}
	play(t, f, lines...)
	return f
}

// told is all that stands there, folder by folder: names with a / behind them, or with = and the bytes.
func told(t *testing.T, f *vfs.FS, folder string) string {
	t.Helper()
	l, e := f.List(strings.TrimSuffix(folder, "/"))
	if e != api.OK {
		t.Fatalf("List(%s): %d", folder, e)
	}
	var out []string
	for _, name := range l {
		if strings.HasSuffix(name, "/") {
			out = append(out, strings.TrimSpace(folder+name+" "+told(t, f, folder+name)))
			continue
		}
		s, e := f.Read(folder + name)
		if e != api.OK {
			t.Fatalf("Read(%s): %d", folder+name, e)
		}
		out = append(out, folder+name+"="+s)
	}
	return strings.Join(out, " ")
}

func wantTold(t *testing.T, f *vfs.FS, want string) {
	t.Helper()
	if got := told(t, f, ""); got != want {
		t.Errorf("there stands %q, wanted %q", got, want)
	}
}

func wantErr(t *testing.T, what string, got, want api.Errno) {
	t.Helper()
	if got != want {
		t.Errorf("%s: %d, wanted %d", what, got, want)
	}
}

func wantInt(t *testing.T, what string, got, want int) {
	t.Helper()
	if got != want {
		t.Errorf("%s: %d, wanted %d", what, got, want)
	}
}

// fallen is what stands there when the power failed and came again.
func fallen(t *testing.T, f *vfs.FS, keep uint64, torn int) string {
	t.Helper()
	f = f.Clone()
	f.Crash(keep, torn)
	if !f.Dead() || !f.Up() || f.Dead() || f.Loose() != 0 {
		t.Fatal("no power, or not all is sure")
	}
	return told(t, f, "")
}

func wantFallen(t *testing.T, f *vfs.FS, keep uint64, torn int, want string) {
	t.Helper()
	if got := fallen(t, f, keep, torn); got != want {
		t.Errorf("behind a fall that keeps %b, torn %d, there stands %q, wanted %q", keep, torn, got, want)
	}
}
