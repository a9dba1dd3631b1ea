package loose_test

import (
	"fmt"
	"maps"
	"math/rand"
	"slices"
	"testing"

	"pollard/api"
	"pollard/loose"
	"pollard/vfs"
)

// kept is which objects were told as kept, and not dropped since.
type kept map[string]bool

// deed is a call, told as its word and the object that it is about.
type deed struct{ word, raw string }

// do does it, and notes what is told.
func (d deed) do(f *vfs.FS, k kept) api.Errno {
	e := api.OK
	switch d.word {
	case "open":
		e = loose.Open(f)
	case "settle":
		e = loose.Settle(f)
	case "put":
		if _, e = loose.Put(f, d.raw); e == api.OK {
			k[d.raw] = true
		}
	case "drop":
		e = loose.Drop(f, sumOf(d.raw))
		delete(k, d.raw)
	default:
		panic(d.word)
	}
	return e
}

// wantKept wants what was told as kept to be there, and of the others none whose bytes are not the right ones.
func wantKept(t *testing.T, what string, f *vfs.FS, k kept, raws []string) {
	t.Helper()
	var ids []string
	for _, raw := range raws {
		id := sumOf(raw)
		ids = append(ids, id)
		s, e := loose.Get(f, id)
		if k[raw] && (e != api.OK || s != raw || !loose.Has(f, id)) {
			t.Fatalf("%s: %.80q was kept: %.80q, %d", what, raw, s, e)
		}
		if e == api.OK && s != raw || e != api.OK && e != api.ErrGone && e != api.ErrSpoilt {
			t.Fatalf("%s: %.80q was not kept: %.80q, %d", what, raw, s, e)
		}
	}
	for _, id := range loose.List(f) {
		if !slices.Contains(ids, id) {
			t.Fatalf("%s: List tells of %x", what, id)
		}
	}
}

// falls calls a function with each fall that can strike in a deed: what stands there then, with power again, and what was told as kept.
func falls(t *testing.T, f *vfs.FS, k kept, d deed, see func(what string, f *vfs.FS, k kept)) {
	t.Helper()
	end := f.Clone()
	if e := d.do(end, maps.Clone(k)); e != api.OK {
		t.Fatalf("%s %.80q: %d", d.word, d.raw, e)
	}
	const most = 3 // no call here has more things at once that are not sure
	for at := f.Steps(); at <= end.Steps(); at++ {
		for keep := range uint64(1) << (f.Loose() + most) {
			for _, torn := range []int{0, 1, 7} {
				g, l := f.Clone(), maps.Clone(k)
				g.Plan([]api.Fall{{At: at, Keep: keep, Torn: torn}})
				e := d.do(g, l)
				if at < end.Steps() && e != api.ErrStill {
					t.Fatalf("%s %.80q: %d with a fall at %d", d.word, d.raw, e, at)
				}
				g.Crash(keep, torn) // behind its last step, if none struck
				g.Up()
				g.Plan(nil)
				see(fmt.Sprintf("%s %.80q, fall at %d that keeps %b, torn %d", d.word, d.raw, at, keep, torn), g, l)
			}
		}
	}
}

// Promise 8.2: falls at each place, with each way to keep what is not sure; with what then stands there everything can go on.
func TestFalls(t *testing.T) {
	near := neighbours(2)
	one, other := near[0], blob("other")
	raws := append(near, other)
	f, k := empty(t), kept{}
	for _, d := range []deed{
		{"open", ""}, {"put", one}, {"put", near[1]}, {"put", other}, {"open", ""},
		{"drop", one}, {"put", one}, {"drop", near[1]}, {"settle", ""}, {"put", near[1]}, {"drop", other}, {"settle", ""},
	} {
		falls(t, f, k, d, func(what string, g *vfs.FS, l kept) {
			wantKept(t, what, g, l, raws)
			for _, again := range []deed{{"open", ""}, {"put", other}, {"put", one}, {"put", near[1]}} {
				if e := again.do(g, l); e != api.OK {
					t.Fatalf("%s: then %s: %d", what, again.word, e)
				}
				wantKept(t, what+", and then "+again.word, g, l, raws)
			}
			wantKept(t, what+", and a second fall", fallen(g), l, raws)
		})
		if e := d.do(f, k); e != api.OK {
			t.Fatal(d.word, e)
		}
	}
}

// Promise 8.2: falls while it stands up from a fall.
func TestFallsInOpen(t *testing.T) {
	near := neighbours(2)
	raws := append(near, blob("other"))
	f, k := ready(t), kept{}
	for _, raw := range raws[:2] {
		deed{"put", raw}.do(f, k)
	}
	open := deed{"open", ""}
	falls(t, f, k, deed{"put", raws[2]}, func(what string, g *vfs.FS, l kept) {
		falls(t, g, l, open, func(then string, h *vfs.FS, m kept) {
			wantKept(t, what+"; "+then, h, m, raws)
			if e := open.do(h, m); e != api.OK {
				t.Fatalf("%s; %s: Open: %d", what, then, e)
			}
			if _, e := h.Read(incoming); e != api.ErrGone {
				t.Fatalf("%s; %s: something is still coming in: %d", what, then, e)
			}
			deed{"put", raws[2]}.do(h, m)
			wantKept(t, what+"; "+then+"; all once more", fallen(h), m, raws)
		})
	})
}

// Promise 8.2: a fall while a spoilt file is mended leaves it spoilt or mended, and the others as they were.
func TestFallsInMending(t *testing.T) {
	raws := append(neighbours(2), blob("other"))
	f, k := ready(t), kept{}
	for _, raw := range raws {
		deed{"put", raw}.do(f, k)
	}
	play(t, f, "write "+fileOf(raws[0])+" spoilt", "sync "+fileOf(raws[0]), "syncdir objects")
	delete(k, raws[0])
	falls(t, f, k, deed{"put", raws[0]}, func(what string, g *vfs.FS, l kept) {
		wantKept(t, what, g, l, raws)
		if _, e := loose.Get(g, sumOf(raws[0])); e == api.ErrGone {
			t.Fatalf("%s: its file is not there", what)
		}
	})
}

// Promise 8.2: calls and falls by chance, with room and without.
func TestFallsByChance(t *testing.T) {
	raws := append(neighbours(4), someRaws()...)
	r := rand.New(rand.NewSource(8))
	for turn := range 300 {
		f, k := empty(t), kept{}
		deed{"open", ""}.do(f, k)
		for range 40 {
			d := deed{[]string{"put", "put", "put", "drop", "settle", "open"}[r.Intn(6)], raws[r.Intn(len(raws))]}
			if r.Intn(4) == 0 {
				f.Plan([]api.Fall{{At: f.Steps() + r.Intn(7), Keep: r.Uint64(), Torn: r.Intn(20)}})
			}
			if r.Intn(8) == 0 {
				f.Room(f.Used() + r.Intn(200))
			}
			e := d.do(f, k)
			what := fmt.Sprintf("turn %d, %s %.80q: %d", turn, d.word, d.raw, e)
			if e != api.OK && e != api.ErrFull && e != api.ErrStill && e != api.ErrGone || e == api.ErrGone && d.word != "drop" {
				t.Fatal(what)
			}
			if r.Intn(10) == 0 {
				f.Crash(r.Uint64(), r.Intn(20))
			}
			for f.Up() { // Open may fall, too
				wantKept(t, what, f, k, raws)
				deed{"open", ""}.do(f, k)
			}
			wantKept(t, what, f, k, raws)
		}
	}
}
