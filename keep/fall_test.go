package keep_test

import (
	"fmt"
	"math/rand"
	"testing"

	"pollard/api"
	"pollard/keep"
	"pollard/vfs"
)

// upTo is each number of bytes from none up to so many.
func upTo(n int) []int {
	var l []int
	for i := range n + 1 {
		l = append(l, i)
	}
	return l
}

// falls calls a function with what stands there, with power again, behind each fall that can strike in a call or just behind it: whatever is kept of what is not sure, and torn at each of these bytes. It says whether the call was told as done.
func falls(t *testing.T, what string, f *vfs.FS, torn []int, call func(*vfs.FS) api.Errno, see func(what string, f *vfs.FS, done bool)) {
	t.Helper()
	end := f.Clone()
	wantErr(t, what, call(end), api.OK)
	const most = 3 // more things at once no call here leaves behind that are not sure
	for at := f.Steps(); at <= end.Steps(); at++ {
		for bits := range uint64(1) << (f.Loose() + most) {
			for _, n := range torn {
				g := f.Clone()
				g.Plan([]api.Fall{{At: at, Keep: bits, Torn: n}})
				e := call(g)
				fell := fmt.Sprintf("%s, fall at step %d that keeps %b, torn %d", what, at-f.Steps(), bits, n)
				want := api.ErrStill
				if at == end.Steps() {
					want = api.OK
				}
				wantErr(t, fell, e, want)
				g.Crash(bits, n) // behind its last step, if none struck
				g.Up()
				g.Plan(nil)
				see(fell, g, e == api.OK)
			}
		}
	}
}

// wantFile wants one of these to be what stands at a path; empty: nothing.
func wantFile(t *testing.T, what string, f *vfs.FS, path string, want ...string) {
	t.Helper()
	s, e := f.Read(path)
	if e != api.OK && e != api.ErrGone {
		t.Errorf("%s: Read(%s): %d", what, path, e)
	}
	for _, w := range want {
		if s == w {
			return
		}
	}
	t.Errorf("%s: at %s there stands %.80q, wanted one of %.80q", what, path, s, want)
}

// Promise 14.1, Lay: behind a fall at each step the file has the bytes that it had, or those that were laid; the latter, if that was told.
func TestFallsInLay(t *testing.T) {
	const fresh = "new bytes"
	for _, dir := range []string{"", "d"} {
		for _, old := range []string{"", "old"} {
			for _, left := range []string{"", "left by another one"} {
				f := made(t, "mkdir d")
				by, path := in(dir, "by"), in(dir, "x")
				if old != "" {
					play(t, f, "write "+path+" "+old)
				}
				if left != "" {
					play(t, f, "write "+by+" "+left)
				}
				f.Crash(1<<62-1, 0)
				f.Up()
				what := fmt.Sprintf("Lay(%q, %q, %q) over %q, by way of %q", dir, by, path, old, left)
				falls(t, what, f, upTo(len(left)+1), lays(dir, by, path, fresh), func(what string, g *vfs.FS, done bool) {
					if done {
						wantFile(t, what, g, path, fresh)
						wantFile(t, what, g, by, "")
					} else {
						wantFile(t, what, g, path, old, fresh)
					}
					wantErr(t, what+", and Lay again", keep.Lay(g, dir, by, path, "newer"), api.OK)
					wantFile(t, what+", and Lay again", fallen(g), path, "newer")
				})
			}
		}
	}
}

// in is the path of a name in a folder.
func in(dir, name string) string {
	if dir == "" {
		return name
	}
	return dir + "/" + name
}

// Promise 14.1, Clear: behind a fall at each step the file is there, or it is not; the latter, if that was told; what else is there stays.
func TestFallsInClear(t *testing.T) {
	for _, dir := range []string{"", "d"} {
		path := in(dir, "x")
		sure := made(t, "mkdir d", "write y other", "write "+path+" old")
		unsure := made(t, "mkdir d", "write y other")
		play(t, unsure, "write "+path+" old")
		synced := unsure.Clone()
		play(t, synced, "sync "+path)
		for _, f := range []*vfs.FS{sure, unsure, synced} {
			falls(t, "Clear of "+path, f, upTo(4), clears(dir, path), func(what string, g *vfs.FS, done bool) {
				wantFile(t, what, g, "y", "other")
				if done {
					wantFile(t, what, g, path, "")
				} else if f == sure {
					wantFile(t, what, g, path, "", "old")
				}
				wantErr(t, what+", and Clear again", keep.Clear(g, dir, path), api.OK)
				wantFile(t, what+", and Clear again", fallen(g), path, "")
			})
		}
	}
}

// wantEither wants one of two refs to be there, and nothing else, now and behind a fall, and that others can be saved then.
func wantEither(t *testing.T, what string, f *vfs.FS, was, coming api.Refs) {
	t.Helper()
	r, e := keep.Open(f)
	if e != api.OK || !same(r, was) && !same(r, coming) {
		t.Fatalf("%s: %s, %d; wanted %s or %s", what, show(r), e, show(was), show(coming))
	}
	if _, e := f.Read(newFile); e != api.ErrGone {
		t.Fatalf("%s: behind Open refs.new is there: %d", what, e)
	}
	wantOpen(t, what+", and a fall", fallen(f), r)
	next := named("heads/next", "heads/next")
	wantErr(t, what+", and Save", keep.Save(f, next), api.OK)
	wantOpen(t, what+", Save, and a fall", fallen(f), next)
}

// Promise 14.2: a fall at each step of Save, with whatever is kept of what is not sure: the refs are those that were kept last, or those that were being kept; the latter, if that was told.
func TestFallsInSave(t *testing.T) {
	small, long := named("heads/b"), named("heads/a", "heads/a", "tags/v")
	for _, x := range [][2]api.Refs{{firstRefs(), small}, {small, long}, {long, small}, {long, long}, {small, named("heads/c")}} {
		was, coming := x[0], x[1]
		f := empty(t)
		if !same(was, firstRefs()) {
			f = holding(t, was)
		}
		left := f.Clone()
		play(t, left, "write refs.new left", "sync refs.new", "syncdir")
		for _, f := range []*vfs.FS{f, left} {
			what := fmt.Sprintf("Save of %s behind %s", show(coming), show(was))
			falls(t, what, f, upTo(len(fileOf(coming))), saves(coming), func(what string, g *vfs.FS, done bool) {
				if done {
					wantOpen(t, what, g, coming)
				}
				wantEither(t, what, g, was, coming)
			})
		}
	}
}

// Promise 14.2: falls in the greatest refs, torn at some places.
func TestFallsInLongSave(t *testing.T) {
	was, coming := mostRefs(), mostRefs()
	for i := range coming.List {
		coming.List[i].ID = idOf('z')
	}
	n := len(fileOf(coming))
	torn := []int{-1, 0, 1, 2, 3, 4, 76, 135, 1000, n - 5, n - 4, n - 1, n, 1 << 30}
	falls(t, "Save", holding(t, was), torn, saves(coming), func(what string, g *vfs.FS, done bool) {
		if done {
			wantOpen(t, what, g, coming)
		}
		wantEither(t, what, g, was, coming)
	})
}

// Promise 14.2: a fall in Save, and then one in standing up from it, and then another one.
func TestFallsInOpen(t *testing.T) {
	was, coming := named("heads/b"), named("heads/c", "tags/v")
	some := []int{0, 5}
	falls(t, "Save", holding(t, was), some, saves(coming), func(what string, f *vfs.FS, done bool) {
		r, e := keep.Open(f.Clone())
		if e != api.OK || !same(r, coming) && (done || !same(r, was)) {
			t.Fatal(what, show(r), e)
		}
		falls(t, what+"; Open", f, some, opens, func(what string, g *vfs.FS, _ bool) {
			falls(t, what+"; Open again", g, some, opens, func(what string, h *vfs.FS, _ bool) {
				wantEither(t, what, h, r, r) // standing up moves nothing any more
			})
		})
	})
}

// Promise 14.2: a fall in a Save behind a fall in another one, without Open between: what the first one left is in nobody's way.
func TestFallsInSaveBehindFall(t *testing.T) {
	was, one, other := named("heads/b"), named("heads/c", "tags/v"), named("heads/d")
	some := []int{0, 5, 20}
	falls(t, "Save", holding(t, was), some, saves(one), func(what string, f *vfs.FS, _ bool) {
		r, e := keep.Open(f.Clone())
		if e != api.OK || !same(r, was) && !same(r, one) {
			t.Fatal(what, show(r), e)
		}
		falls(t, what+"; Save again", f, some, saves(other), func(what string, g *vfs.FS, done bool) {
			if done {
				wantOpen(t, what, g.Clone(), other)
			}
			wantEither(t, what, g, r, other)
		})
	})
}

// Promise 14.2: calls, room and falls by chance, with others that write there and are not sure.
func TestFallsByChance(t *testing.T) {
	all := someRefs()
	all = all[:len(all)-1]
	rnd := rand.New(rand.NewSource(14))
	fell, saved := 0, 0
	for turn := range 500 {
		f, was := empty(t), firstRefs()
		for i := range 40 {
			r, save := all[rnd.Intn(len(all))], rnd.Intn(4) > 0
			if rnd.Intn(3) == 0 {
				line(f, []string{"mkdir d", "write x other", "sync x", "remove x", "rename x y", "remove d", "write d/z other", "syncdir d"}[rnd.Intn(8)])
			}
			f.Plan(nil)
			if rnd.Intn(3) == 0 {
				f.Plan([]api.Fall{{At: f.Steps() + rnd.Intn(6), Keep: rnd.Uint64(), Torn: rnd.Intn(40)}})
			}
			f.Room(1 << 20)
			if rnd.Intn(6) == 0 {
				f.Room(f.Used() + rnd.Intn(300))
			}
			what := fmt.Sprintf("turn %d, call %d", turn, i)
			if !save {
				got, e := keep.Open(f)
				if e == api.OK && !same(got, was) || e != api.OK && e != api.ErrStill {
					t.Fatalf("%s: Open: %s, %d; wanted %s", what, show(got), e, show(was))
				}
				r = was
			} else if e := keep.Save(f, r); e == api.OK {
				was, saved = r, saved+1
			} else if e != api.ErrFull && e != api.ErrStill {
				t.Fatalf("%s: Save: %d", what, e)
			} else if e == api.ErrFull {
				r = was
			}
			if rnd.Intn(6) == 0 {
				f.Crash(rnd.Uint64(), rnd.Intn(40))
			}
			if !f.Up() {
				continue
			}
			fell++
			f.Plan(nil)
			got, e := keep.Open(f)
			if e != api.OK || !same(got, was) && !same(got, r) {
				t.Fatalf("%s: behind a fall: %s, %d; wanted %s or %s", what, show(got), e, show(was), show(r))
			}
			was = got
		}
	}
	if fell < 1000 || saved < 1000 {
		t.Error(fell, saved)
	}
}
